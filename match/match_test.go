package match_test

import (
	"math/rand"
	"testing"

	"lazaret/api"
	"lazaret/match"
	"lazaret/sources"
	"lazaret/urls"
)

func parse(t *testing.T, s string) api.URL {
	t.Helper()
	u, e := urls.Parse(s, nil)
	if e != api.OK {
		t.Fatalf("%q: %d", s, e)
	}
	return u
}

// check asks whether a URL is what a source expression says.
func check(t *testing.T, own, url, source string, want bool) {
	t.Helper()
	s, e := sources.Parse(source)
	if e != api.OK {
		t.Fatalf("%q: %d", source, e)
	}
	u, o := parse(t, url), parse(t, own)
	if got := match.One(u, s, o, false); got != want {
		t.Errorf("own %s: %s by %s: %v", own, url, source, got)
	}
	if match.Any(u, []string{"'none'", source}, o, false) != want {
		t.Errorf("own %s: Any of %s by %s", own, url, source)
	}
}

// P26.1: Scheme.
func TestScheme(t *testing.T) {
	list := []string{"http", "https", "ws", "wss", "ftp", "", "HTTP", "data"}
	more := map[string]string{"http": " https ", "ws": " wss http https ", "wss": " https "}
	for _, policy := range list {
		for _, url := range list {
			want := policy == url || url != "" && more[policy] != "" && contains(more[policy], url)
			if got := match.Scheme(policy, url); got != want {
				t.Errorf("Scheme(%q, %q) = %v", policy, url, got)
			}
		}
	}
}

func contains(list, word string) bool {
	for i := 0; i+len(word)+2 <= len(list); i++ {
		if list[i:i+len(word)+2] == " "+word+" " {
			return true
		}
	}
	return false
}

// P26.2: Path.
func TestPath(t *testing.T) {
	for _, x := range []struct {
		policy, url string
		want        bool
	}{
		{"", "", true}, {"", "/x", true}, {"/", "", true}, {"/", "/", true}, {"/", "/x/y", true}, {"/", "x", false}, {"/p/", "/p/q", true}, {"/p/", "/p/", true}, {"/p/", "/p", false}, {"/p/", "/p/q/r", true}, {"/p/", "/pq/r", false}, {"/p/", "/q/p/", false},
		{"/p", "/p", true}, {"/p", "/p/", false}, {"/p", "/p/q", false}, {"/p", "/q", false}, {"/p", "/P", false}, {"/p", "", false}, {"/p", "p", false}, {"/p/q", "/p/q", true}, {"/p/q", "/p", false}, {"/p//", "/p//q", true}, {"/p//", "/p/q/", false}, {"/p//q", "/p//q", true},
		{"/%70", "/p", true}, {"/p", "/%70", true}, {"/a%2Fb", "/a%2fb", true}, {"/a%2Fb", "/a/b", false}, {"/a%2F", "/a/x", false}, {"/%zz", "/%zz", true}, {"/p%2F", "/p/", false}, {"p", "p", true}, {"p/", "p/q", true}, {"/", "/x", true}, {"//", "//x", true}, {"//", "/", false},
	} {
		if got := match.Path(x.policy, x.url); got != x.want {
			t.Errorf("Path(%q, %q) = %v", x.policy, x.url, got)
		}
	}
}

// P26.3: 'self', and other keywords, nonces and hashes.
func TestSelf(t *testing.T) {
	const own = "https://a.b/"
	for url, want := range map[string]bool{"https://a.b/x": true, "http://a.b/x": false, "https://a.b:444/": false, "https://a.b:443/": true, "wss://a.b/": true, "ws://a.b/": false, "https://c.a.b/": false, "https://a.b.c/": false, "wss://a.b:444/": false, "ftp://a.b/": false, "data:x": false, "blob:https://a.b/x": true, "file:///x": false, "https://u:p@a.b/": true} {
		check(t, own, url, "'self'", want)
	}
	for url, want := range map[string]bool{"http://a/x": true, "https://a/": true, "ws://a/": true, "wss://a/": true, "http://a:81/": false, "https://a:81/": false, "ftp://a/": false, "https://a:80/": false, "http://b/": false, "https://b/": false} {
		check(t, "http://a/", url, "'self'", want)
	}
	for url, want := range map[string]bool{"http://a:81/": true, "https://a:81/": true, "ws://a:81/": true, "https://a/": false, "http://a/": false} {
		check(t, "http://a:81/", url, "'self'", want)
	}
	check(t, "ws://a/", "http://a/", "'self'", false)
	check(t, "ws://a/", "ws://a/x", "'self'", true)
	check(t, "file:///x", "file:///x", "'self'", false)
	check(t, "data:x", "data:x", "'self'", false)
	check(t, "blob:http://a/x", "http://a/", "'self'", true)
	check(t, "x://a/", "https://a/", "'self'", true)
	check(t, "x://a:9/", "wss://a:9/", "'self'", true)
	check(t, "x://a:9/", "wss://a/", "'self'", false)
	check(t, "x://a/", "x://a/", "'self'", false)
	for _, source := range []string{"'unsafe-inline'", "'strict-dynamic'", "'unsafe-eval'", "'nonce-self'", "'sha256-x'", "'unsafe-hashes'"} {
		check(t, own, "https://a.b/", source, false)
	}
	u := parse(t, own)
	for _, s := range []api.Source{{}, {Kind: 99, Text: "self"}, {Kind: api.SoKeyword, Text: "SELF"}, {Kind: api.SoNonce, Text: "self"}} {
		if match.One(u, s, u, false) {
			t.Errorf("%+v", s)
		}
	}
	if match.One(api.URL{Scheme: "https", Host: "a", Port: -1}, api.Source{Kind: api.SoKeyword, Text: "self"}, api.URL{Scheme: "x", HasHost: true, Host: "a", Port: -1}, false) {
		t.Error("a host that it has not")
	}
}

// P26.3: schemes, and * alone.
func TestSchemes(t *testing.T) {
	const own = "https://a.b/"
	check(t, own, "https://x/", "https:", true)
	check(t, own, "https://x:9/y", "http:", true)
	check(t, own, "http://x/", "https:", false)
	check(t, own, "data:1", "data:", true)
	check(t, own, "wss://x/", "ws:", true)
	check(t, own, "data:1", "https:", false)
	for url, want := range map[string]bool{"http://x/": true, "https://x:9/y": true, "data:1": false, "ws://x/": false, "wss://x/": false, "ftp://x/": false, "blob:https://a.b/": false} {
		check(t, own, url, "*", want)
	}
	check(t, "data:x", "data:1", "*", true)
	check(t, "data:x", "https://x/", "*", true)
	check(t, "data:x", "http://x/", "*", true)
	check(t, "data:x", "ws://x/", "*", false)
	check(t, "ws://x", "ws://y", "*", true)
	check(t, "ws://x", "wss://y", "*", false)
	star := api.Source{Kind: api.SoHost, Wild: true, Port: api.PortNone, Text: "x"}
	if u := parse(t, "data:1"); match.One(u, star, u, false) {
		t.Error("not * alone")
	}
}

// P26.3: hosts.
func TestHosts(t *testing.T) {
	const own = "https://a.b/"
	for _, x := range []struct {
		url, source string
		want        bool
	}{
		{"https://c.a.b/", "*.a.b", true}, {"https://a.b/", "*.a.b", false}, {"https://ca.b/", "*.a.b", false}, {"https://d.c.a.b/", "*.a.b", true}, {"https://a.b/", "A.B", true}, {"https://a.b./", "a.b", false}, {"https://c.a.b/", "a.b", false}, {"https://x/", "*:443", true}, {"https://x/p", "*/p", true}, {"https://x/q", "*/p", false}, {"http://x/p", "*/p", false}, {"http://x/p", "http://*/p", true},
		{"http://a.b/", "a.b", false}, {"wss://a.b/", "a.b", false}, {"http://a.b/", "http://a.b", true}, {"https://a.b/", "http://a.b", true}, {"wss://a.b/", "ws://a.b", true}, {"https://a.b/", "wss://a.b", true}, {"http://a.b/", "https://a.b", false}, {"ftp://a.b/", "ftp://a.b", true},
		{"https://127.0.0.1/", "127.0.0.1", true}, {"https://127.0.0.2/", "127.0.0.2", false}, {"https://1.2.3.4/", "1.2.3.4", false}, {"https://127.0.0.1/", "*.0.0.1", true}, {"https://[::1]/", "*:443", true}, {"https://127.1/", "127.0.0.1", true}, {"https://127.0.0.1/", "127.1", false},
		{"https://x/p/q", "x/p/", true}, {"https://x/p", "x/p/", false}, {"https://x/p?q#f", "x/p", true}, {"https://x/%70", "x/p", true}, {"https://x/", "x/", true}, {"https://x", "x/", true},
		{"https://x/", "x:443", true}, {"https://x:444/", "x:443", false}, {"https://x:444/", "x:444", true}, {"https://x:444/", "x", false}, {"https://x:444/", "x:*", true}, {"https://x/", "x:*", true}, {"https://x/", "x:80", false}, {"https://x/", "http://x:80", false}, {"https://x/", "http://x", true}, {"https://x:0/", "x:0", true}, {"https://x/", "x:0", false}, {"https://x:80/", "http://x", false},
		{"x-y://h/", "x-y://h", true}, {"x-y://h:9/", "x-y://h", false}, {"x-y://h:9/", "x-y://h:9", true}, {"x-y://h:9/", "x-y://h:*", true}, {"data:h", "data://h", false}, {"file:///x", "file://*", false}, {"file://h/x", "file://h", true}, {"x-y:/h", "x-y://*", false},
	} {
		check(t, own, x.url, x.source, x.want)
	}
	check(t, "http://a/", "https://x/", "x", true)
	check(t, "http://a/", "http://x/", "x", true)
	check(t, "file:///x", "https://x/", "x", false)
	u := parse(t, "https://x/p")
	for _, s := range []api.Source{{Kind: api.SoHost, Host: "x", Port: -7}, {Kind: api.SoHost, Host: "x"}} {
		if match.One(u, s, u, false) {
			t.Errorf("%+v", s)
		}
	}
	if match.One(api.URL{Scheme: "https", HasHost: true, Port: -1}, api.Source{Kind: api.SoHost, Port: api.PortNone}, u, false) || match.One(api.URL{Scheme: "https", Host: "x", Port: -1}, api.Source{Kind: api.SoHost, Host: "x", Port: api.PortNone}, u, false) {
		t.Error("a host that is none")
	}
	if !match.One(api.URL{Scheme: "https", HasHost: true, Host: "x", Port: 443}, api.Source{Kind: api.SoHost, Host: "x", Port: api.PortNone}, u, false) {
		t.Error("a port that is the scheme's")
	}
	opaque := api.URL{Scheme: "https", HasHost: true, Host: "x", Port: -1, Opaque: true, Path: []string{"/p", "/q"}}
	if !match.One(opaque, api.Source{Kind: api.SoHost, Host: "x", Port: api.PortNone, Path: "/p/q"}, u, false) {
		t.Error("an opaque path of two parts")
	}
}

// P26.3: redirected.
func TestRedirected(t *testing.T) {
	own := parse(t, "https://a.b/")
	for _, x := range []struct {
		url, source string
		want        bool
	}{{"https://x/q", "x/p", true}, {"https://x/p", "x/p", true}, {"https://y/p", "x/p", false}, {"https://x:1/p", "x/p", false}, {"http://x/p", "x/p", false}, {"https://a.b/", "'self'", true}, {"http://a.b/", "'self'", false}} {
		s, _ := sources.Parse(x.source)
		if match.One(parse(t, x.url), s, own, true) != x.want || match.Any(parse(t, x.url), []string{x.source}, own, true) != x.want {
			t.Errorf("%s by %s", x.url, x.source)
		}
	}
}

// P26.4: None, and Any.
func TestAny(t *testing.T) {
	u := parse(t, "https://a.b/")
	for _, values := range [][]string{nil, {}, {"'none'"}, {"'NONE'"}} {
		if !match.None(values) || match.Any(u, values, u, false) {
			t.Errorf("%q", values)
		}
	}
	for _, values := range [][]string{{"'none'", "'none'"}, {""}, {"none"}, {"'none' "}, {"'none'", "x"}, {"x"}, {"a..b", "?"}} {
		if match.None(values) || match.Any(u, values, u, false) {
			t.Errorf("%q", values)
		}
	}
	for _, values := range [][]string{{"'none'", "'self'"}, {"x", "a..b", "*"}, {"https:", "'none'"}, {"A.b"}} {
		if match.None(values) || !match.Any(u, values, u, false) {
			t.Errorf("%q", values)
		}
	}
}

// P26.5: what follows.
func TestWhatFollows(t *testing.T) {
	r := rand.New(rand.NewSource(26))
	values := []string{"'self'", "*", "https:", "a.b", "*.b", "http://a.b", "a.b:*", "a.b:444", "a.b/p", "a.b/p/", "'none'", "a..b", "'nonce-x'", "ws:", "*:*"}
	addresses := []string{"https://a.b/", "http://a.b/p", "https://c.b/p/q", "ws://a.b/", "https://a.b:444/", "data:x", "https://x/", "file:///p"}
	for range 20000 {
		u, own := parse(t, addresses[r.Intn(len(addresses))]), parse(t, addresses[r.Intn(len(addresses))])
		var list []string
		for range 1 + r.Intn(3) {
			list = append(list, values[r.Intn(len(values))])
		}
		more := append([]string{}, list...)
		more = append(more, values[r.Intn(len(values))])
		redirected := r.Intn(2) == 0
		if match.Any(u, list, own, redirected) && !match.Any(u, more, own, redirected) {
			t.Fatalf("%+v: %q, then %q", u, list, more)
		}
		if match.Any(u, list, own, false) && !match.Any(u, list, own, true) {
			t.Fatalf("%+v: %q, redirected", u, list)
		}
		s, e := sources.Parse(values[r.Intn(len(values))])
		if e != api.OK || s.Path != "" || s.Kind != api.SoHost || s.Wild && s.Host == "" {
			continue
		}
		path := s
		path.Path = "/p"
		if match.One(u, path, own, redirected) && !match.One(u, s, own, redirected) {
			t.Fatalf("%+v: a path lets more through: %+v", u, s)
		}
	}
}
