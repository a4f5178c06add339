package urls

import (
	"slices"
	"strings"

	"lazaret/api"
	"lazaret/ascii"
	"lazaret/hosts"
	"lazaret/percent"
)

// read is the URL that a text of any length is, by a base that is told.
func read(s string, base *api.URL) (api.URL, error) {
	s, fragment, hasFragment := strings.Cut(clean(s), "#")
	s, query, hasQuery := strings.Cut(s, "?")
	u := api.URL{
		Port:     -1,
		HasQuery: hasQuery, Query: query,
		HasFragment: hasFragment, Fragment: percent.Encode(fragment, percent.SetFragment),
	}
	scheme, r, ok := cutScheme(s)
	if ok {
		u.Scheme = scheme
	} else {
		if base == nil {
			return u, refusal{s, api.ErrRelative}
		}
		u.Scheme, r = base.Scheme, s
	}
	u.Query = percent.Encode(query, querySet(u.Scheme))
	return locate(u, r, ok, base)
}

// clean is s without what is passed over wherever a URL stands.
func clean(s string) string {
	for len(s) > 0 && s[0] <= 32 {
		s = s[1:]
	}
	for len(s) > 0 && s[len(s)-1] <= 32 {
		s = s[:len(s)-1]
	}
	return strings.NewReplacer("\t", "", "\n", "", "\r", "").Replace(s)
}

func querySet(scheme string) int {
	if Special(scheme) {
		return percent.SetSpecial
	}
	return percent.SetQuery
}

// cutScheme parts a text at its first colon, if a scheme stands ahead of that.
func cutScheme(s string) (scheme, rest string, ok bool) {
	scheme, rest, ok = strings.Cut(s, ":")
	if !ok || scheme == "" || !ascii.Alpha(scheme[0]) {
		return "", "", false
	}
	for i := range len(scheme) {
		if c := scheme[i]; !ascii.Alpha(c) && !ascii.Digit(c) && c != '+' && c != '-' && c != '.' {
			return "", "", false
		}
	}
	return ascii.Lower(scheme), rest, true
}

// locate fills in what r says, behind the scheme (own: the text has one), and
// ahead of the query.
func locate(u api.URL, r string, own bool, base *api.URL) (api.URL, error) {
	switch {
	case !own && base.Opaque:
		if r != "" || u.HasQuery || !u.HasFragment {
			return u, refusal{r, api.ErrRelative}
		}
		u.HasQuery, u.Query = base.HasQuery, base.Query
		u.Opaque, u.Path = true, slices.Clone(base.Path)
		return u, nil
	case u.Scheme == "file":
		return readFile(u, r, base)
	case !own:
		return readRelative(u, r, *base)
	case !Special(u.Scheme):
		return readOther(u, r)
	case base != nil && base.Scheme == u.Scheme && !strings.HasPrefix(r, "//"):
		return readRelative(u, r, *base)
	}
	return readAuthority(u, skipSlashes(u.Scheme, r))
}

// readRelative goes on from base.
func readRelative(u api.URL, r string, base api.URL) (api.URL, error) {
	if slashesAhead(u.Scheme, r, 2) {
		if Special(u.Scheme) {
			return readAuthority(u, skipSlashes(u.Scheme, r))
		}
		return readAuthority(u, r[2:])
	}
	u.User, u.Pass, u.HasHost, u.Host, u.Port = base.User, base.Pass, base.HasHost, base.Host, base.Port
	switch {
	case slashesAhead(u.Scheme, r, 1):
		u.Path = goOn(u.Scheme, nil, r[1:])
	case r == "":
		u.Path = slices.Clone(base.Path)
		if !u.HasQuery {
			u.HasQuery, u.Query = base.HasQuery, base.Query
		}
	default:
		u.Path = goOn(u.Scheme, shorten(u.Scheme, slices.Clone(base.Path)), r)
	}
	return u, nil
}

// readOther goes on behind a scheme that is not special.
func readOther(u api.URL, r string) (api.URL, error) {
	switch {
	case strings.HasPrefix(r, "//"):
		return readAuthority(u, r[2:])
	case strings.HasPrefix(r, "/"):
		u.Path = goOn(u.Scheme, nil, r[1:])
	default:
		u.Opaque, u.Path = true, []string{percent.Encode(r, percent.SetControl)}
	}
	return u, nil
}

// readAuthority goes on behind the slashes ahead of an authority.
func readAuthority(u api.URL, r string) (api.URL, error) {
	a, path, slashed := cutSlash(u.Scheme, r)
	if slashed || Special(u.Scheme) {
		u.Path = goOn(u.Scheme, nil, path)
	}
	u.HasHost = true
	if at := strings.LastIndexByte(a, '@'); at >= 0 {
		user, pass, _ := strings.Cut(a[:at], ":")
		u.User = percent.Encode(user, percent.SetUser)
		u.Pass = percent.Encode(pass, percent.SetUser)
		if a = a[at+1:]; a == "" {
			return u, refusal{r, api.ErrHost}
		}
	}
	host, port, hasPort := cutPort(a)
	if host == "" && (hasPort || Special(u.Scheme)) {
		return u, refusal{r, api.ErrHost}
	}
	var e api.Errno
	if u.Host, e = hosts.Parse(host, Special(u.Scheme)); e != api.OK {
		return u, refusal{host, e}
	}
	var ok bool
	if u.Port, ok = readPort(port, u.Scheme); !ok {
		return u, refusal{port, api.ErrPort}
	}
	return u, nil
}

// cutPort parts a host and a port at the first colon outside of brackets.
func cutPort(a string) (host, port string, ok bool) {
	inside := false
	for i := range len(a) {
		switch a[i] {
		case '[':
			inside = true
		case ']':
			inside = false
		case ':':
			if !inside {
				return a[:i], a[i+1:], true
			}
		}
	}
	return a, "", false
}

// readPort is what a port's digits are worth; -1, if it is the scheme's own,
// or there are none.
func readPort(s, scheme string) (int, bool) {
	if s == "" {
		return -1, true
	}
	port := 0
	for i := range len(s) {
		if !ascii.Digit(s[i]) {
			return 0, false
		}
		if port = port*10 + int(s[i]-'0'); port > 65535 {
			return 0, false
		}
	}
	if port == Default(scheme) {
		port = -1
	}
	return port, true
}
