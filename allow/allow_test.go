package allow_test

import (
	"crypto/sha256"
	"crypto/sha512"
	"encoding/base64"
	"math/rand"
	"strings"
	"testing"

	"lazaret/allow"
	"lazaret/urls"
)

const (
	inline  = "'unsafe-inline'"
	strict  = "'strict-dynamic'"
	unsafe  = "'unsafe-hashes'"
	nonceA  = "'nonce-a'"
	someSum = "'sha256-x'"
)

// hashes are the hashes of a text, by their bits, without quotes.
func hashes(text string) map[int]string {
	a, b, c := sha256.Sum256([]byte(text)), sha512.Sum384([]byte(text)), sha512.Sum512([]byte(text))
	return map[int]string{256: "sha256-" + base64.StdEncoding.EncodeToString(a[:]), 384: "sha384-" + base64.StdEncoding.EncodeToString(b[:]), 512: "sha512-" + base64.StdEncoding.EncodeToString(c[:])}
}

func quote(s string) string { return "'" + s + "'" }

var urlLetters = strings.NewReplacer("+", "-", "/", "_")

// P27.1: All.
func TestAll(t *testing.T) {
	for _, x := range []struct {
		values          []string
		scripts, styles bool
	}{
		{nil, false, false}, {[]string{inline}, true, true}, {[]string{"'UNSAFE-Inline'", "x", "a..b"}, true, true}, {[]string{inline, nonceA}, false, false}, {[]string{inline, someSum}, false, false}, {[]string{inline, strict}, false, true}, {[]string{strict}, false, false}, {[]string{"unsafe-inline"}, false, false}, {[]string{"'unsafe-eval'", "*", "'self'"}, false, false}, {[]string{inline, unsafe}, true, true}, {[]string{inline, "'nonce-'", "'sha256-'", "'none'"}, true, true}, {[]string{inline, nonceA, strict}, false, false},
	} {
		for kind := -3; kind <= 9; kind++ {
			want := x.styles
			if kind < allow.Style {
				want = x.scripts
			}
			if got := allow.All(kind, x.values); got != want {
				t.Errorf("All(%d, %q) = %v", kind, x.values, got)
			}
		}
	}
	if allow.Script != 1 || allow.Handler != 2 || allow.Java != 3 || allow.Style != 4 || allow.Rule != 5 {
		t.Error("the kinds' numbers")
	}
}

// P27.1: Nonce.
func TestNonce(t *testing.T) {
	values := []string{"'nonce-aB+/='", "'NONCE-x_-'", "'nonce-'", "'self'", "nonce-y", someSum}
	for nonce, want := range map[string]bool{"aB+/=": true, "x_-": true, "": false, "AB+/=": false, "aB+/": false, "x/+": false, "aB-_=": false, "y": false, "x": false, "self": false, "aB+/= ": false} {
		if got := allow.Nonce(values, nonce); got != want {
			t.Errorf("Nonce(%q) = %v", nonce, got)
		}
	}
	if allow.Nonce(nil, "a") || allow.Nonce([]string{"'none'"}, "a") {
		t.Error("of none")
	}
}

// P27.1: Hash.
func TestHash(t *testing.T) {
	for _, text := range []string{"", "alert(1)", "é\x00\xff", strings.Repeat("x", 300), "9", "some text"} {
		for bits, h := range hashes(text) {
			for _, value := range []string{h, strings.ToUpper(h[:6]) + h[6:], urlLetters.Replace(h[7:])} {
				if !strings.Contains(value, "-") || !strings.EqualFold(value[:3], "sha") {
					value = h[:7] + value
				}
				if !allow.Hash([]string{"x", quote(value)}, text) {
					t.Errorf("%d: %s", bits, value)
				}
				if allow.Hash([]string{quote(value)}, text+" ") || allow.Hash([]string{value}, text) {
					t.Errorf("%d: %s of another text", bits, value)
				}
			}
			if allow.Hash([]string{quote(strings.TrimRight(h, "="))}, text) && strings.HasSuffix(h, "=") {
				t.Errorf("%d: without =", bits)
			}
			for other := range hashes(text) {
				if other != bits && allow.Hash([]string{quote("sha" + map[int]string{256: "256", 384: "384", 512: "512"}[other] + h[6:])}, text) {
					t.Errorf("%d as %d", bits, other)
				}
			}
			if allow.Hash([]string{quote("nonce-" + h[7:])}, text) {
				t.Errorf("%d: as a nonce", bits)
			}
		}
	}
	if allow.Hash(nil, "") {
		t.Error("of none")
	}
}

// P27.2: Inline.
func TestInline(t *testing.T) {
	const text = "alert(1)"
	h := quote(hashes(text)[256])
	for _, x := range []struct {
		values []string
		nonce  string
		want   string // the kinds that are allowed
	}{
		{nil, "a", ""}, {[]string{"'none'"}, "a", ""}, {[]string{"'NONE'"}, "", ""}, {[]string{inline}, "", "12345"}, {[]string{inline, "'none'"}, "", "12345"}, {[]string{inline, nonceA}, "a", "14"}, {[]string{inline, nonceA}, "b", ""}, {[]string{nonceA}, "a", "14"}, {[]string{nonceA}, "", ""}, {[]string{inline, strict}, "", "45"}, {[]string{strict, nonceA}, "a", "14"},
		{[]string{h}, "", "14"}, {[]string{h, unsafe}, "", "12345"}, {[]string{h, unsafe, inline}, "", "12345"}, {[]string{h, inline}, "", "14"}, {[]string{unsafe}, "", ""}, {[]string{someSum, unsafe}, "", ""}, {[]string{someSum, nonceA}, "a", "14"}, {[]string{h, strict}, "", "14"}, {[]string{h, strict, unsafe}, "", "12345"}, {[]string{"'self'", "*", "https:"}, "a", ""}, {[]string{nonceA, unsafe}, "a", "14"},
	} {
		for kind := -2; kind <= 8; kind++ {
			want := kind > 0 && strings.Contains(x.want, string(rune('0'+kind)))
			if got := allow.Inline(kind, x.values, x.nonce, text); got != want {
				t.Errorf("Inline(%d, %q, %q) = %v", kind, x.values, x.nonce, got)
			}
		}
	}
}

// P27.3: Integrity.
func TestIntegrity(t *testing.T) {
	for _, x := range []struct {
		values []string
		s      string
		want   bool
	}{
		{[]string{"'sha256-a'"}, "sha256-a", true}, {[]string{"'sha256-a'"}, "sha384-a", false}, {[]string{"'sha256-a'"}, "sha256-b", false}, {[]string{"'sha256-a'"}, "", false}, {nil, "sha256-a", false}, {[]string{"'sha256-a'"}, "x y", false}, {[]string{"'sha256-a'"}, " x\tSHA256-a?opt=1?2\ny ", true}, {[]string{"'sha256-a'"}, "sha256-a sha256-b", false}, {[]string{"'sha256-a'", "'sha512-b'"}, "sha512-b sha256-a", true}, {[]string{"'sha256-a'"}, "sha256-a sha256-a", true},
		{[]string{"'sha256-a_-'"}, "sha256-a/+", true}, {[]string{"'sha256-a/+'"}, "sha256-a_-", true}, {[]string{"'sha256-a='"}, "sha256-a", false}, {[]string{"'sha256-a'"}, "sha256-?", false}, {[]string{"'sha256-a'"}, "'sha256-a'", false}, {[]string{"'nonce-a'"}, "nonce-a", false}, {[]string{"'self'"}, "self", false}, {[]string{"'sha256-A'"}, "sha256-a", false}, {[]string{"'sha256-a'"}, "sha256-a sha1-b sha256-", true}, {[]string{"sha256-a"}, "sha256-a", false}, {[]string{"'nonce-a'"}, "sha256-a", false}, {[]string{"'sha256-a'"}, "?sha256-a", false}, {[]string{"'sha256-a'"}, "sha256-a\u00a0", false},
	} {
		if got := allow.Integrity(x.values, x.s); got != x.want {
			t.Errorf("Integrity(%q, %q) = %v", x.values, x.s, got)
		}
	}
}

// P27.4: Fetch.
func TestFetch(t *testing.T) {
	own, _ := urls.Parse("https://a.b/", nil)
	for _, x := range []struct {
		values                string
		url, nonce, integrity string
		want                  bool
	}{
		{"", "https://a.b/", "a", "sha256-x", false}, {"'none'", "https://a.b/", "", "", false}, {"'self'", "https://a.b/x", "", "", true}, {"'self'", "https://x/", "", "", false}, {"'nonce-a'", "https://x/", "a", "", true}, {"'nonce-a'", "https://x/", "b", "", false}, {"'nonce-a'", "https://x/", "", "", false}, {"'sha256-x'", "https://x/", "", "sha256-x", true}, {"'sha256-x'", "https://x/", "", "sha256-y", false}, {"'sha256-x' https:", "https://x/", "", "sha256-y", true},
		{"'strict-dynamic' 'nonce-a' https:", "https://x/", "a", "", true}, {"'strict-dynamic' 'nonce-a' https:", "https://x/", "", "", false}, {"'strict-dynamic' 'sha256-x' https:", "https://x/", "", "sha256-x", true}, {"'strict-dynamic' 'self'", "https://a.b/", "", "", false}, {"https: 'nonce-a'", "https://x/", "", "", true}, {"'none' https:", "https://x/", "", "", true}, {"a.b/p", "https://a.b/q", "", "", false}, {"'unsafe-inline'", "https://a.b/", "", "", false},
	} {
		u, _ := urls.Parse(x.url, nil)
		if got := allow.Fetch(strings.Fields(x.values), u, own, x.nonce, x.integrity); got != x.want {
			t.Errorf("%+v: %v", x, got)
		}
	}
}

// P27.5: what follows.
func TestWhatFollows(t *testing.T) {
	const text = "x"
	r := rand.New(rand.NewSource(27))
	some := []string{inline, strict, unsafe, nonceA, someSum, quote(hashes(text)[384]), "'self'", "https:", "*", "'none'", "a..b", "'SHA512-y'"}
	own, _ := urls.Parse("https://a.b/", nil)
	for range 5000 {
		var values []string
		for range 1 + r.Intn(4) {
			values = append(values, some[r.Intn(len(some))])
		}
		if len(values) == 1 && values[0] == "'none'" {
			continue
		}
		nonce := []string{"", "a", "b"}[r.Intn(3)]
		more := append(append([]string{}, values...), []string{"a..b", "'none'", "?", ""}[r.Intn(4)])
		for kind := allow.Script; kind <= allow.Rule; kind++ {
			got := allow.Inline(kind, values, nonce, text)
			if got != allow.Inline(kind, more, nonce, text) {
				t.Fatalf("%q, then %q", values, more)
			}
			bound := allow.Nonce(values, "a") || strings.Contains(strings.ToLower(strings.Join(values, " ")), "sha")
			if bound && allow.All(kind, values) {
				t.Fatalf("%q: all of %d", values, kind)
			}
			if kind != allow.Script && kind != allow.Style && got != allow.Inline(kind, values, "", text) {
				t.Fatalf("%q: a nonce allows %d", values, kind)
			}
		}
		if allow.Nonce(values, nonce) != allow.Nonce(more, nonce) || allow.Hash(values, text) != allow.Hash(more, text) || allow.Integrity(values, "sha512-y") != allow.Integrity(more, "sha512-y") || allow.Fetch(values, own, own, nonce, "sha256-x") != allow.Fetch(more, own, own, nonce, "sha256-x") {
			t.Fatalf("%q, then %q", values, more)
		}
	}
}
