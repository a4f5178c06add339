package sources_test

import (
	"math/rand"
	"reflect"
	"strings"
	"testing"

	"lazaret/api"
	"lazaret/sources"
)

func check(t *testing.T, s string, want api.Source) {
	t.Helper()
	if got, e := sources.Parse(s); got != want || e != api.OK {
		t.Errorf("Parse(%q) = %+v, %d; want %+v", s, got, e, want)
	}
}

func checkNone(t *testing.T, list ...string) {
	t.Helper()
	for _, s := range list {
		if got, e := sources.Parse(s); got != (api.Source{}) || e != api.ErrSource {
			t.Errorf("Parse(%q) = %+v, %d", s, got, e)
		}
	}
}

// P25.1: keywords, nonces, hashes.
func TestQuoted(t *testing.T) {
	for _, word := range []string{"self", "unsafe-inline", "unsafe-eval", "strict-dynamic", "unsafe-hashes", "report-sample", "wasm-unsafe-eval", "unsafe-allow-redirects"} {
		check(t, "'"+word+"'", api.Source{Kind: api.SoKeyword, Text: word, Port: api.PortNone})
		check(t, "'"+strings.ToUpper(word)+"'", api.Source{Kind: api.SoKeyword, Text: word, Port: api.PortNone})
		checkNone(t, "'"+word, word+"'", "'"+word+" '", "''"+word+"''", "'"+word[1:]+"'", "\""+word+"\"")
	}
	for text, word := range map[string]string{"aB==": "nonce", "x": "NONCE", "a-b_c/d+9=": "Nonce", "-": "nonce", "nonce-": "nonce"} {
		check(t, "'"+word+"-"+text+"'", api.Source{Kind: api.SoNonce, Text: text, Port: api.PortNone})
	}
	for _, bits := range []int{256, 384, 512} {
		word := "sha" + map[int]string{256: "256", 384: "384", 512: "512"}[bits]
		want := api.Source{Kind: api.SoHash, Text: "x-Y_/+=", Bits: bits, Port: api.PortNone}
		check(t, "'"+word+"-x-Y_/+='", want)
		check(t, "'"+strings.ToUpper(word)+"-x-Y_/+='", want)
	}
	checkNone(t, "'none'", "'NONE'", "'nonce-'", "'nonce'", "'nonce-='", "'nonce-=='", "'nonce-a==='", "'nonce-a=b'", "'nonce-a b'", "'nonce-a.b'", "'nonce-é'", "'nonce- a'", "'noncea'", "'nonce_a'", "'sha1-x'", "'sha224-x'", "'sha256-'", "'sha256x'", "'sha256'", "'sha2566-x'", "'SELFISH'", "'UNSAFE'", "'X'", "'-'", "'-x'", "''", "'", "'a", "a'", "'https:'", "'*'", "'x-y'", "'uns\u0430fe-inline'", "'\u017felf'")
}

// P25.1: schemes.
func TestSchemes(t *testing.T) {
	for s, scheme := range map[string]string{"https:": "https", "HTTP:": "http", "a:": "a", "x-1+.Y:": "x-1+.y", "data:": "data", "localhost:": "localhost"} {
		check(t, s, api.Source{Kind: api.SoScheme, Scheme: scheme, Port: api.PortNone})
	}
	checkNone(t, ":", "1a:", "-a:", "a_b:", "a b:", "é:", "+:", "a::", "https:/", "https://")
}

// P25.1: hosts.
func TestHosts(t *testing.T) {
	for s, want := range map[string]api.Source{
		"*": {Wild: true, Port: api.PortNone}, "a": {Host: "a", Port: api.PortNone}, "A.b-1.-": {Host: "a.b-1.-", Port: api.PortNone}, "*.A.b:*": {Wild: true, Host: "a.b", Port: api.PortAny}, "*:*": {Wild: true, Port: api.PortAny}, "*:1": {Wild: true, Port: 1}, "1.2": {Host: "1.2", Port: api.PortNone},
		"HTTP://x:080/p/": {Scheme: "http", Host: "x", Port: 80, Path: "/p/"}, "a:0": {Host: "a", Port: 0}, "a:65535": {Host: "a", Port: 65535}, "a:000000000000000000080": {Host: "a", Port: 80}, "a/": {Host: "a", Port: api.PortNone, Path: "/"}, "*/x": {Wild: true, Port: api.PortNone, Path: "/x"}, "x//a": {Host: "x", Port: api.PortNone, Path: "//a"}, "*.a/B:c": {Wild: true, Host: "a", Port: api.PortNone, Path: "/B:c"},
		"a-b+c.d://*": {Scheme: "a-b+c.d", Wild: true, Port: api.PortNone}, "a/!$%&'()*+-./09:=@AZ[]_az~": {Host: "a", Port: api.PortNone, Path: "/!$%&'()*+-./09:=@AZ[]_az~"}, "self": {Host: "self", Port: api.PortNone}, "none": {Host: "none", Port: api.PortNone}, "x://a//": {Scheme: "x", Host: "a", Port: api.PortNone, Path: "//"}, "nonce-a": {Host: "nonce-a", Port: api.PortNone}, "x://y/://": {Scheme: "x", Host: "y", Port: api.PortNone, Path: "/://"},
	} {
		want.Kind = api.SoHost
		check(t, s, want)
	}
	checkNone(t, "", " ", "a..b", "x:y", "a/b?c", ".", "a.", ".a", "*.", "*.*", "**", "*a", "a*", "a.*", "*.a.", "*..a", "a_b", "a b", "é", "a\x00", "[::1]", "a@b", "a,b", "a;b", "1a:", "*:", "a:-1", "a:65536", "a:99999999999999999999", "a:1:2", "a:1*", "a:**", "a: 1", "a:8a", "//a", "/", "/a", "://a", "1://a", "a/b://c", "x://", "x:///p", "x://:1", "x://a:", "a#b", "a?b", "_://a", "a b://c")
	for c := range 256 {
		s := "a/" + string([]byte{byte(c)}) + "b"
		if c < 33 || c > 126 || strings.IndexByte("?#;,\"<>\\^`{|}", byte(c)) >= 0 {
			checkNone(t, s)
		} else {
			check(t, s, api.Source{Kind: api.SoHost, Host: "a", Port: api.PortNone, Path: s[1:]})
		}
	}
}

// P25.1: which bytes nonces, schemes, and labels have.
func TestEachByte(t *testing.T) {
	const letters = "0123456789ABCDEFGHIJKLMNOPQRSTUVWXYZabcdefghijklmnopqrstuvwxyz"
	for i := range 256 {
		c := string([]byte{byte(i)})
		for _, x := range []struct {
			source, more string
			kind         int
		}{{"'nonce-a" + c + "b'", "+/-_", api.SoNonce}, {"'sha512-" + c + "b'", "+/-_", api.SoHash}, {"a" + c + "b:", "-+.", api.SoScheme}, {c + "b:", "", api.SoScheme}, {"a." + c + "b", "-", api.SoHost}, {"*." + c, "-", api.SoHost}} {
			want := strings.Contains(letters+x.more, c)
			if x.source == c+"b:" {
				want = strings.Contains(letters[10:], c)
			}
			if got, e := sources.Parse(x.source); (e == api.OK && got.Kind == x.kind) != want {
				t.Errorf("Parse(%q) = %+v, %d", x.source, got, e)
			}
		}
	}
}

// P25.2: List.
func TestList(t *testing.T) {
	got := sources.List([]string{"'self'", "'none'", "a..b", "https:", "a", "'self'", ""})
	self := api.Source{Kind: api.SoKeyword, Text: "self", Port: api.PortNone}
	want := []api.Source{self, {Kind: api.SoScheme, Scheme: "https", Port: api.PortNone}, {Kind: api.SoHost, Host: "a", Port: api.PortNone}, self}
	if !reflect.DeepEqual(got, want) {
		t.Errorf("%+v", got)
	}
	if len(sources.List(nil)) != 0 || len(sources.List([]string{"'none'"})) != 0 {
		t.Error("of none")
	}
}

// P25.2: Text, of any source.
func TestText(t *testing.T) {
	for want, s := range map[string]api.Source{
		"": {}, "'self'": {Kind: api.SoKeyword, Text: "self", Scheme: "x"}, "'nonce-a'": {Kind: api.SoNonce, Text: "a"}, "'sha256-a'": {Kind: api.SoHash, Text: "a", Bits: 256}, "'sha0-'": {Kind: api.SoHash}, "https:": {Kind: api.SoScheme, Scheme: "https", Host: "a"},
		"*": {Kind: api.SoHost, Wild: true, Port: -1}, "*.a": {Kind: api.SoHost, Wild: true, Host: "a", Port: -1}, "x://a:*/p": {Kind: api.SoHost, Scheme: "x", Host: "a", Port: api.PortAny, Path: "/p"}, "a:0": {Kind: api.SoHost, Host: "a"}, "a:70000p": {Kind: api.SoHost, Host: "a", Port: 70000, Path: "p"}, "a": {Kind: api.SoHost, Host: "a", Port: -3}, "x://*:8": {Kind: api.SoHost, Scheme: "x", Wild: true, Port: 8},
	} {
		if got := sources.Text(s); got != want {
			t.Errorf("Text(%+v) = %q, want %q", s, got, want)
		}
	}
	for _, kind := range []int{-1, 6, 99} {
		if sources.Text(api.Source{Kind: kind, Text: "a", Host: "b"}) != "" {
			t.Errorf("kind %d", kind)
		}
	}
}

// P25.3: what follows.
func TestWhatFollows(t *testing.T) {
	r := rand.New(rand.NewSource(25))
	pieces := []string{"a", "B", ".", "*", "*.", ":", "://", "/", "080", "1", "'", "nonce-", "SHA256-", "self", "Self", "=", "-", "https", "?", "é", " "}
	for range 40000 {
		s := ""
		for range 1 + r.Intn(6) {
			s += pieces[r.Intn(len(pieces))]
		}
		if r.Intn(2) == 0 {
			s = "'" + s + "'"
		}
		x, e := sources.Parse(s)
		if e != api.OK {
			continue
		}
		text := sources.Text(x)
		if again, e := sources.Parse(text); again != x || e != api.OK {
			t.Fatalf("%q: %q: %+v, %+v", s, text, x, again)
		}
		if x.Port < 0 && !strings.EqualFold(text, s) {
			t.Fatalf("%q: %q", s, text)
		}
	}
}
