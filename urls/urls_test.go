package urls_test

import (
	"math/rand"
	"reflect"
	"strings"
	"testing"

	"lazaret/api"
	"lazaret/urls"
)

// parse reads a text that is to be a URL.
func parse(t *testing.T, s string, base *api.URL) api.URL {
	t.Helper()
	u, e := urls.Parse(s, base)
	if e != api.OK {
		t.Fatalf("Parse(%q) = %d", s, e)
	}
	return u
}

func checkText(t *testing.T, s string, base *api.URL, want string) {
	t.Helper()
	u, e := urls.Parse(s, base)
	if e != api.OK || urls.Text(u) != want {
		t.Errorf("Parse(%q) = %q, %d; want %q", s, urls.Text(u), e, want)
	}
}

func checkError(t *testing.T, s string, base *api.URL, want api.Errno) {
	t.Helper()
	u, e := urls.Parse(s, base)
	if e != want || !reflect.DeepEqual(u, api.URL{}) {
		t.Errorf("Parse(%q) = %+v, %d; want %d", s, u, e, want)
	}
}

// P8.1: texts that stand by themselves.
func TestAbsolute(t *testing.T) {
	for s, want := range map[string]string{
		"HTTP://u:p@EX.com:80/a/./b/%2e%2E/c d?q'#f g": "http://u:p@ex.com/a/c%20d?q%27#f%20g",
		"file:///C|/../x": "file:///C:/x", "data:a b,c?d": "data:a b,c?d", "a:/..//b": "a:/.//b",
		"http://a": "http://a/", "http:a": "http://a/", "http:/a": "http://a/", "http:\\\\a\\b": "http://a/b", "http://////a//b": "http://a//b", "https:\\/a?\\#\\": "https://a/?\\#\\",
		"  \x00\x1fhttp://a\x00 ": "http://a/", "h\nt\tt\rp://a\t/b\n": "http://a/b", "http://a b": "", "http://a?b": "http://a/?b", "http://a#b?c#d": "http://a/#b?c#d", "http://a/?": "http://a/?", "http://a/#": "http://a/#",
		"http://a:80": "http://a/", "https://a:80": "https://a:80/", "https://a:443": "https://a/", "ws://a:80": "ws://a/", "wss://a:443": "wss://a/", "ftp://a:21": "ftp://a/", "ftp://a:80": "ftp://a:80/", "http://a:": "http://a/", "http://a:0": "http://a:0/", "http://a:00081": "http://a:81/", "http://a:65535": "http://a:65535/", "b://a:80": "b://a:80",
		"http://@a": "http://a/", "http://:@a": "http://a/", "http://u@a": "http://u@a/", "http://u:@a": "http://u@a/", "http://:p@a": "http://:p@a/", "http://a@b@c:d@e": "http://a%40b%40c:d@e/", "http://u/:p@a": "http://u/:p@a", "http://é;|:=^@a": "http://%C3%A9%3B%7C:%3D%5E@a/", "b://u:p@h:1?": "b://u:p@h:1?",
		"http://[::1]:81/": "http://[::1]:81/", "b://[1:0:0::0]": "b://[1::]", "http://0x7f.1": "http://127.0.0.1/", "b://0x7f.1": "b://0x7f.1", "http://%41": "http://a/", "b://A%41": "b://A%41", "http://u:p@[::1]": "http://u:p@[::1]/",
		"http://a/b/../c": "http://a/c", "http://a/b/..": "http://a/", "http://a/b/.": "http://a/b/", "http://a/..": "http://a/", "http://a/../../b": "http://a/b", "http://a/.%2e/b": "http://a/b", "http://a/b/%2E./": "http://a/", "http://a/.../b": "http://a/.../b", "http://a/b/..c": "http://a/b/..c", "http://a/%2e%2": "http://a/%2e%2", "http://a//..//b": "http://a//b", "http://a/./": "http://a/",
		"http://a/\"<>`{}^|[]%": "http://a/%22%3C%3E%60%7B%7D%5E|[]%", "http://a/é\x7f\x01x": "http://a/%C3%A9%7F%01x", "http://a/?\"'<>`{}é": "http://a/?%22%27%3C%3E`{}%C3%A9", "b://a/?'": "b://a/?'", "b:?'": "b:?'", "file:?'": "file:///?%27", "http://a/#\"'<>`#{}": "http://a/#%22'%3C%3E%60#{}",
		"b:": "b:", "b:c": "b:c", "b:c/../d": "b:c/../d", "b:c\\d": "b:c\\d", "b:/": "b:/", "b:/c": "b:/c", "b:/c/..": "b:/", "b://": "b://", "b:///c": "b:///c", "b:////c": "b:////c", "b://h": "b://h", "b://h/": "b://h/", "b://h\\c": "", "b:/\\c": "b:/\\c", "b:\x01é": "b:%01%C3%A9", "b:c d ?e": "b:c d ?e", "B+-.9:c": "b+-.9:c", "b:/.//c": "b:/.//c", "b:/./c": "b:/c", "b://h//c": "b://h//c",
		"javascript:alert(1) //?x": "javascript:alert(1) //?x", "j\na:\tx": "ja:x", "mailto:a@b": "mailto:a@b",
	} {
		if want == "" {
			checkError(t, s, nil, api.ErrHost)
		} else {
			checkText(t, s, nil, want)
		}
	}
}

// P8.1 (3): files.
func TestFiles(t *testing.T) {
	for s, want := range map[string]string{
		"file:": "file:///", "file:x": "file:///x", "file:/x": "file:///x", "file://x": "file://x/", "file:///x": "file:///x", "file:////x": "file:////x", "file:\\\\x\\y": "file://x/y",
		"file://localhost/x": "file:///x", "file://LOCALHOST": "file:///", "file://C:/x": "file:///C:/x", "file://c|": "file:///c:", "file:c|/..": "file:///c:/", "file:c|/../..": "file:///c:/", "file:///c:/a/../..": "file:///c:/", "file:c|x": "file:///c|x", "file:///a/c|": "file:///a/c|", "file:///a/../c|/": "file:///c:/", "file:///1|/..": "file:///",
		"file://h/C|/../..": "file://h/C:/", "file://0x7f.1/": "file://127.0.0.1/", "file:?q": "file:///?q", "file:#f": "file:///#f", "FILE:/\\h/x": "file://h/x", "file://%43:/x": "",
	} {
		if want == "" {
			checkError(t, s, nil, api.ErrHost)
		} else {
			checkText(t, s, nil, want)
		}
	}
	for s, e := range map[string]api.Errno{"file://a:80/": api.ErrHost, "file://u@a/": api.ErrHost, "file://a b/": api.ErrHost, "file://256.1/": api.ErrV4, "file://[1]/": api.ErrV6} {
		checkError(t, s, nil, e)
	}
	base := parse(t, "file://h/C:/a/b?q#f", nil)
	for s, want := range map[string]string{
		"": "file://h/C:/a/b?q", "?r": "file://h/C:/a/b?r", "#g": "file://h/C:/a/b?q#g", "x": "file://h/C:/a/x", "../..": "file://h/C:/", "../../../x": "file://h/C:/x", "/x": "file://h/C:/x", "\\x": "file://h/C:/x", "/D:/x": "file://h/D:/x", "/D|": "file://h/D:", "/D:\\x": "file://h/D:/x", "/Dx\\y": "file://h/C:/Dx/y", "/D:x": "file://h/C:/D:x", "D|\\x": "file://h/D:/x", "D|/x": "file://h/D:/x", "D:x": "", "//i/x": "file://i/x", "//": "file:///", "///x": "file:///x", "file:x": "file://h/C:/a/x", "file:": "file://h/C:/a/b?q", "file:/x": "file://h/C:/x", "file:///x": "file:///x", "/1:/x": "file://h/C:/1:/x", "/Dx:": "file://h/C:/Dx:", "//D|/x": "file:///D:/x",
	} {
		if want == "" {
			checkText(t, s, &base, "d:x")
		} else {
			checkText(t, s, &base, want)
		}
	}
	other := parse(t, "file:///a/b", nil)
	checkText(t, "/x", &other, "file:///x")
	drive := parse(t, "file:///C:", nil)
	checkText(t, "/x", &drive, "file:///C:/x")
	checkText(t, "x", &drive, "file:///C:/x")
	checkText(t, "c", &other, "file:///a/c")
	web := parse(t, "http://h/C:/x", nil)
	checkText(t, "file:/y", &web, "file:///y")
	checkText(t, "file:y", &web, "file:///y")
	checkText(t, "file:", &web, "file:///")
}

// P8.1 (1, 2): by a base.
func TestRelative(t *testing.T) {
	base := parse(t, "http://u:p@h:81/a/b?q#f", nil)
	for s, want := range map[string]string{
		"": "http://u:p@h:81/a/b?q", "#f": "http://u:p@h:81/a/b?q#f", "?": "http://u:p@h:81/a/b?", "?r": "http://u:p@h:81/a/b?r", "x": "http://u:p@h:81/a/x", "../x": "http://u:p@h:81/x", "./": "http://u:p@h:81/a/", ".": "http://u:p@h:81/a/", "..": "http://u:p@h:81/", "/x": "http://u:p@h:81/x", "\\x": "http://u:p@h:81/x", "//i": "http://i/", "\\\\j\\k": "http://j/k", "/\\j": "http://j/", "////j": "http://j/", "//i:82/x?y": "http://i:82/x?y",
		"http:": "http://u:p@h:81/a/b?q", "http:x": "http://u:p@h:81/a/x", "http:/x": "http://u:p@h:81/x", "http:\\\\i": "http://i/", "http://i": "http://i/", "https:x": "https://x/", "https:/x": "https://x/", "b:x": "b:x", "1:x": "http://u:p@h:81/a/1:x", ":x": "http://u:p@h:81/a/:x", "x:": "x:", "a/b:c": "http://u:p@h:81/a/a/b:c", "?a:b": "http://u:p@h:81/a/b?a:b", " x ": "http://u:p@h:81/a/x", " ": "http://u:p@h:81/a/b?q", "\x00 \x1f": "http://u:p@h:81/a/b?q", "!": "http://u:p@h:81/a/!", "!x!": "http://u:p@h:81/a/!x!", "\x7f": "http://u:p@h:81/a/%7F", "C|": "http://u:p@h:81/a/C|", "?'": "http://u:p@h:81/a/b?%27",
	} {
		checkText(t, s, &base, want)
	}
	checkError(t, "//", &base, api.ErrHost)
	checkError(t, "//:1", &base, api.ErrHost)
	checkError(t, "//a:x", &base, api.ErrPort)
	checkError(t, "http://", &base, api.ErrHost)
	plain := parse(t, "b://h/a/b?q", nil)
	for s, want := range map[string]string{"": "b://h/a/b?q", "x": "b://h/a/x", "/x": "b://h/x", "//i": "b://i", "//i/": "b://i/", "//": "b://", "///x": "b:///x", "\\x": "b://h/a/\\x", "b:x": "b:x", "?'": "b://h/a/b?'", "../..": "b://h/"} {
		checkText(t, s, &plain, want)
	}
	bare := parse(t, "b://h", nil)
	checkText(t, "x", &bare, "b://h/x")
	checkText(t, "", &bare, "b://h")
	rooted := parse(t, "b:/a/b", nil)
	checkText(t, "..//x", &rooted, "b:/.//x")
	checkText(t, "//h", &rooted, "b://h")
}

// P8.1 (1): by an opaque base, and by none.
func TestOpaqueBase(t *testing.T) {
	base := parse(t, "b:c d?q#f", nil)
	checkText(t, "#g h", &base, "b:c d?q#g%20h")
	checkText(t, "#", &base, "b:c d?q#")
	checkText(t, "x:y", &base, "x:y")
	for _, s := range []string{"", "x", "/x", "//x", "?r", "?#f", "x#f"} {
		checkError(t, s, &base, api.ErrRelative)
	}
	for _, s := range []string{"", "x", "#f", "/x", "//x", "1:x", ":", "é:x"} {
		checkError(t, s, nil, api.ErrRelative)
	}
}

// P8.1: hosts and ports that may not be; the host's error comes first.
func TestErrors(t *testing.T) {
	for s, e := range map[string]api.Errno{
		"http://": api.ErrHost, "http:": api.ErrHost, "http://a:b": api.ErrPort, "http://a@": api.ErrHost, "b://a@": api.ErrHost, "b://@": api.ErrHost, "http://:80": api.ErrHost, "b://:80": api.ErrHost, "b://u@:80": api.ErrHost, "http://u@:80": api.ErrHost,
		"http://a:65536": api.ErrPort, "http://a:999999999999999999999": api.ErrPort, "http://a:-1": api.ErrPort, "http://a:8 0": api.ErrPort, "b://a:80a": api.ErrPort, "http://a:1:2": api.ErrPort, "http://u:p:q/@a": api.ErrPort, "http://256.1:x": api.ErrV4, "http://[1]:x": api.ErrV6, "http://a b:x": api.ErrHost, "b://a b": api.ErrHost, "http://[::1]x": api.ErrV6, "http://[::1": api.ErrV6, "http://[::1:80": api.ErrV6, "http://a]:80:x": api.ErrHost, "http://[[]:x]:1": api.ErrV6, "http://%/": api.ErrHost, "http://a%2fb/": api.ErrHost, "http:///": api.ErrHost, "http://?": api.ErrHost, "http://#": api.ErrHost,
	} {
		checkError(t, s, nil, e)
	}
}

// P8.1: what a URL is made of.
func TestParts(t *testing.T) {
	for s, want := range map[string]api.URL{
		"http://u:p@a:81/b//c/?q#f": {Scheme: "http", User: "u", Pass: "p", HasHost: true, Host: "a", Port: 81, Path: []string{"b", "", "c", ""}, HasQuery: true, Query: "q", HasFragment: true, Fragment: "f"},
		"http://a":                  {Scheme: "http", HasHost: true, Host: "a", Port: -1, Path: []string{""}},
		"data:x,y":                  {Scheme: "data", Port: -1, Opaque: true, Path: []string{"x,y"}},
		"b:":                        {Scheme: "b", Port: -1, Opaque: true, Path: []string{""}},
		"b://h":                     {Scheme: "b", HasHost: true, Host: "h", Port: -1},
		"b:/x":                      {Scheme: "b", Port: -1, Path: []string{"x"}},
		"file:?":                    {Scheme: "file", HasHost: true, Port: -1, Path: []string{""}, HasQuery: true},
	} {
		u := parse(t, s, nil)
		if len(u.Path) == 0 {
			u.Path = nil
		}
		if !reflect.DeepEqual(u, want) {
			t.Errorf("Parse(%q) = %+v", s, u)
		}
	}
}

// P8.1: limits, bases that are none, and in which order they are told.
func TestLimits(t *testing.T) {
	long := "http://a/" + strings.Repeat("x", api.MaxURL-9)
	if u, e := urls.Parse(long, nil); e != api.OK || urls.Text(u) != long {
		t.Errorf("4000 bytes: %d", e)
	}
	checkError(t, long+"x", nil, api.ErrLong)
	checkError(t, strings.Repeat(" ", 4001), nil, api.ErrLong)
	none := api.URL{}
	checkError(t, long+"x", &none, api.ErrLong)
	checkError(t, "http://a/", &none, api.ErrArg)
	good := parse(t, "http://u:p@a:81/b?q#f", nil)
	for _, change := range []func(u *api.URL){
		func(u *api.URL) { u.Scheme = "HTTP" }, func(u *api.URL) { u.Scheme = "" }, func(u *api.URL) { u.User = "a b" }, func(u *api.URL) { u.Pass = ":" }, func(u *api.URL) { u.HasHost = false }, func(u *api.URL) { u.Host = "A" }, func(u *api.URL) { u.Host = "" },
		func(u *api.URL) { u.Port = 80 }, func(u *api.URL) { u.Port = -2 }, func(u *api.URL) { u.Port = 70000 }, func(u *api.URL) { u.Opaque = true }, func(u *api.URL) { u.Path = nil }, func(u *api.URL) { u.Path = []string{"..", "b"} }, func(u *api.URL) { u.Path = []string{"a/b"} }, func(u *api.URL) { u.Query = "#" }, func(u *api.URL) { u.HasQuery = false }, func(u *api.URL) { u.HasFragment = false }, func(u *api.URL) { u.Fragment = " " },
	} {
		bad := good
		bad.Path = []string{"b"}
		change(&bad)
		checkError(t, "x", &bad, api.ErrArg)
	}
	wide := good
	wide.Path = []string{strings.Repeat("x", 2*api.MaxURL)}
	checkText(t, "y", &wide, "http://u:p@a:81/y")
}

// P8.1: a base stays as it was, and is not shared.
func TestBaseStays(t *testing.T) {
	for _, s := range []string{"http://h/a/b/c", "b:/a/b/c", "b:abc", "file:///C:/a/b"} {
		base := parse(t, s, nil)
		for _, r := range []string{"", "#f", "x", "../y", "?q", "/z"} {
			u, e := urls.Parse(r, &base)
			for i := range u.Path {
				u.Path[i] = "changed"
			}
			if e == api.OK && len(u.Path) > 0 && urls.Text(base) != s {
				t.Errorf("%q changed by %q: %q", s, r, urls.Text(base))
			}
		}
	}
}

// P8.2: of any u.
func TestText(t *testing.T) {
	for _, x := range []struct {
		u    api.URL
		want string
	}{
		{api.URL{}, ":"}, {api.URL{Scheme: "a", Port: -1}, "a:"}, {api.URL{HasHost: true}, "://:0"}, {api.URL{HasHost: true, Port: -2, Host: "h"}, "://h:-2"},
		{api.URL{Scheme: "a", User: "u", HasHost: true, Port: -1, Host: "h"}, "a://u@h"}, {api.URL{Scheme: "a", Pass: "p", HasHost: true, Port: -1}, "a://:p@"}, {api.URL{Scheme: "a", User: "u", Pass: "p", Host: "h", Port: 1}, "a:"},
		{api.URL{Scheme: "a", Path: []string{"", "b"}}, "a:/.//b"}, {api.URL{Scheme: "a", Path: []string{""}}, "a:/"}, {api.URL{Scheme: "a", Path: []string{"b", ""}}, "a:/b/"}, {api.URL{Scheme: "a", HasHost: true, Port: -1, Path: []string{"", "b"}}, "a:////b"},
		{api.URL{Scheme: "a", Opaque: true}, "a:"}, {api.URL{Scheme: "a", Opaque: true, Path: []string{"", "b"}}, "a:"}, {api.URL{Scheme: "a", Opaque: true, Path: []string{"x", "b"}}, "a:x"},
		{api.URL{Scheme: "a", Query: "q", Fragment: "f"}, "a:"}, {api.URL{Scheme: "a", HasQuery: true, HasFragment: true}, "a:?#"}, {api.URL{Scheme: "a", HasQuery: true, Query: "q", HasFragment: true, Fragment: "f"}, "a:?q#f"},
	} {
		if got := urls.Text(x.u); got != x.want {
			t.Errorf("Text(%+v) = %q, want %q", x.u, got, x.want)
		}
	}
}

// P8.3: origins, special schemes, and their ports.
func TestOrigin(t *testing.T) {
	for s, want := range map[string]string{
		"http://u:p@A:80/x": "http://a", "https://a:80/": "https://a:80", "ws://a": "ws://a", "wss://a:1": "wss://a:1", "ftp://a": "ftp://a", "file:///x": "null", "data:x": "null", "b://h": "null",
		"blob:https://a:1/x": "https://a:1", "blob:http://a": "http://a", "blob:ftp://a": "null", "blob:blob:http://a": "null", "blob:x": "null", "blob:/http://a": "null", "blob:": "null", "blob:http://": "null", "blob:ws://a": "null",
	} {
		if got := urls.Origin(parse(t, s, nil)); got != want {
			t.Errorf("Origin(%q) = %q", s, got)
		}
	}
	for _, u := range []api.URL{{}, {Scheme: "blob", Opaque: true}, {Scheme: "blob", Path: []string{"http://a"}}, {Scheme: "HTTP", Host: "a"}, {Scheme: "blob", Opaque: true, Path: []string{strings.Repeat(" ", 4001) + "http://a"}}} {
		if got := urls.Origin(u); got != "null" {
			t.Errorf("Origin(%+v) = %q", u, got)
		}
	}
	for scheme, port := range map[string]int{"http": 80, "https": 443, "ws": 80, "wss": 443, "ftp": 21, "file": -1, "": -1, "HTTP": -1, "b": -1, "data": -1} {
		special := port != -1 || scheme == "file"
		if urls.Default(scheme) != port || urls.Special(scheme) != special {
			t.Errorf("%q: %d, %v", scheme, urls.Default(scheme), urls.Special(scheme))
		}
	}
}

// P8.4: what follows.
func TestWhatFollows(t *testing.T) {
	r := rand.New(rand.NewSource(8))
	pieces := []string{"http:", "https:", "file:", "b:", "blob:", "//", "/", "/", "\\", ".", "..", "%2e", "a", "C:", "c|", "@", ":", ":80", "?", "#", "[::1]", "1.2", " ", "é", "\x00", "'", "\"", "localhost", "|", "%"}
	noise := func() string {
		s := ""
		for range r.Intn(9) {
			s += pieces[r.Intn(len(pieces))]
		}
		return s
	}
	var bases []*api.URL
	for _, s := range []string{"http://h/a/b?q", "https://u@h:1/", "file:///C:/a/b", "file://h/x/y", "b://h", "b:/.//c/d", "b:c"} {
		u := parse(t, s, nil)
		bases = append(bases, &u)
	}
	bases = append(bases, nil)
	for range 30000 {
		s, base := noise(), bases[r.Intn(len(bases))]
		u, e := urls.Parse(s, base)
		if spread, e2 := urls.Parse("\t "+strings.Join(strings.Split(s, ""), "\n\r\t")+" ", base); !strings.HasSuffix(s, "\xc3") && (e2 != e || !reflect.DeepEqual(spread, u)) {
			t.Fatalf("%q with line feeds: %+v, %d; not %+v, %d", s, spread, e2, u, e)
		}
		if e != api.OK {
			continue
		}
		text := urls.Text(u)
		if strings.ContainsFunc(text, func(c rune) bool { return c < 32 || c > 126 }) {
			t.Fatalf("%q: %q", s, text)
		}
		again, e := urls.Parse(text, bases[r.Intn(len(bases))])
		if e != api.OK || urls.Text(again) != text || again.Host != u.Host || strings.Join(again.Path, "\n") != strings.Join(u.Path, "\n") || again.Opaque != u.Opaque || again.HasHost != u.HasHost {
			t.Fatalf("%q: %q: %+v, not %+v", s, text, again, u)
		}
	}
}
