package urls

import (
	"slices"
	"strings"

	"lazaret/api"
	"lazaret/ascii"
	"lazaret/hosts"
	"lazaret/percent"
)

// isSlash tells whether c parts the path of a scheme's URL.
func isSlash(scheme string, c byte) bool {
	return c == '/' || c == '\\' && Special(scheme)
}

// slashesAhead tells whether r begins with n slashes.
func slashesAhead(scheme, r string, n int) bool {
	if len(r) < n {
		return false
	}
	for i := range n {
		if !isSlash(scheme, r[i]) {
			return false
		}
	}
	return true
}

func skipSlashes(scheme, r string) string {
	for slashesAhead(scheme, r, 1) {
		r = r[1:]
	}
	return r
}

// cutSlash parts a text at its first slash.
func cutSlash(scheme, r string) (before, after string, ok bool) {
	for i := range len(r) {
		if isSlash(scheme, r[i]) {
			return r[:i], r[i+1:], true
		}
	}
	return r, "", false
}

// shorten is a path without its last text; a file's drive stays.
func shorten(scheme string, path []string) []string {
	if len(path) == 0 || scheme == "file" && len(path) == 1 && isTold(path[0]) {
		return path
	}
	return path[:len(path)-1]
}

// isDrive tells whether s is a letter, and : or |.
func isDrive(s string) bool {
	return len(s) == 2 && ascii.Alpha(s[0]) && (s[1] == ':' || s[1] == '|')
}

// isTold tells whether s is a drive as it is told.
func isTold(s string) bool { return isDrive(s) && s[1] == ':' }

// drivesAhead tells whether s begins with a drive.
func drivesAhead(s string) bool {
	return len(s) >= 2 && isDrive(s[:2]) && (len(s) == 2 || s[2] == '/' || s[2] == '\\')
}

// dots is how many dots p is, of which each may be a triple; 0: it is others.
func dots(p string) int {
	switch strings.ReplaceAll(ascii.Lower(p), "%2e", ".") {
	case ".":
		return 1
	case "..":
		return 2
	}
	return 0
}

// goOn is a path that is gone on with a text.
func goOn(scheme string, path []string, t string) []string {
	for more := true; more; {
		var piece string
		piece, t, more = cutSlash(scheme, t)
		p := percent.Encode(piece, percent.SetPath)
		switch dots(p) {
		case 2:
			path = shorten(scheme, path)
			fallthrough
		case 1:
			if !more {
				path = append(path, "")
			}
		default:
			if scheme == "file" && len(path) == 0 && isDrive(p) {
				p = p[:1] + ":"
			}
			path = append(path, p)
		}
	}
	return path
}

// readFile goes on behind the scheme file, from base, if that is a file.
func readFile(u api.URL, r string, base *api.URL) (api.URL, error) {
	u.HasHost = true
	if slashesAhead(u.Scheme, r, 2) {
		return readFileHost(u, r[2:])
	}
	var path []string
	if base != nil && base.Scheme == "file" {
		u.Host, path = base.Host, slices.Clone(base.Path)
	}
	switch {
	case slashesAhead(u.Scheme, r, 1):
		r = r[1:]
		if len(path) > 0 && isTold(path[0]) && !drivesAhead(r) {
			path = path[:1]
		} else {
			path = nil
		}
	case base == nil || base.Scheme != "file":
	case r == "":
		u.Path = path
		if !u.HasQuery {
			u.HasQuery, u.Query = base.HasQuery, base.Query
		}
		return u, nil
	case drivesAhead(r):
		path = nil
	default:
		path = shorten(u.Scheme, path)
	}
	u.Path = goOn(u.Scheme, path, r)
	return u, nil
}

// readFileHost goes on behind the two slashes ahead of a file's host.
func readFileHost(u api.URL, r string) (api.URL, error) {
	host, path, _ := cutSlash(u.Scheme, r)
	switch {
	case isDrive(host):
		path = r
	case host != "":
		told, e := hosts.Parse(host, true)
		if e != api.OK {
			return u, refusal{host, e}
		}
		if told != "localhost" {
			u.Host = told
		}
	}
	u.Path = goOn(u.Scheme, nil, path)
	return u, nil
}
