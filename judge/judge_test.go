package judge_test

import (
	"math/rand"
	"reflect"
	"strings"
	"testing"

	"lazaret/api"
	"lazaret/judge"
	"lazaret/policy"
	"lazaret/urls"
)

var own, _ = urls.Parse("https://a.b/", nil)

func one(s string) api.Policy { return api.Policy{List: policy.One(s)} }

// check asks whether an item fails a policy, and by which directive.
func check(t *testing.T, p string, x api.Item, want string) {
	t.Helper()
	if got, fails := judge.Fails(one(p), x, own); got != want || fails != (want != "") {
		t.Errorf("%q: %+v: %q, %v; want %q", p, x, got, fails, want)
	}
}

// P31.1: what stands in a document.
func TestInline(t *testing.T) {
	const inline = "'unsafe-inline'"
	for kind, name := range map[int]string{api.ItInline: "script-src-elem", api.ItHandler: "script-src-attr", api.ItJava: "script-src-elem", api.ItSheet: "style-src-elem", api.ItRule: "style-src-attr"} {
		x := api.Item{Kind: kind, Text: "y"}
		check(t, name+" 'none'", x, name)
		check(t, name, x, name)
		check(t, name+" https: 'self' *", x, name)
		check(t, name+" "+inline, x, "")
		check(t, name+" "+inline+"; default-src 'none'", x, "")
		check(t, name[:len(name)-5]+" 'none'; default-src "+inline, x, name[:len(name)-5])
		check(t, "default-src 'none'", x, "default-src")
		check(t, "img-src 'none'; base-uri 'none'", x, "")
		check(t, "", x, "")
		x.Nonce = "n"
		element := kind == api.ItInline || kind == api.ItSheet
		check(t, "default-src 'nonce-n'", x, map[bool]string{false: "default-src"}[element])
		check(t, "default-src 'nonce-m'", x, "default-src")
		styles := kind == api.ItSheet || kind == api.ItRule
		check(t, "default-src "+inline+" 'strict-dynamic'", x, map[bool]string{false: "default-src"}[styles])
	}
}

// P31.1: a hash, with and without unsafe-hashes.
func TestHashes(t *testing.T) {
	const alert = "'sha256-bhHHL3z2vDgxUt0W3dWQOrprscmda2Y5pLsLg4GF+pI='" // of alert(1)
	for kind, name := range map[int]string{api.ItInline: "", api.ItSheet: "", api.ItHandler: "default-src", api.ItJava: "default-src", api.ItRule: "default-src"} {
		x := api.Item{Kind: kind, Text: "alert(1)"}
		check(t, "default-src "+alert, x, name)
		check(t, "default-src 'unsafe-hashes' "+alert, x, "")
	}
}

// P31.1: what is fetched.
func TestFetches(t *testing.T) {
	names := map[int]string{api.ItScript: "script-src-elem", api.ItStyle: "style-src-elem", api.ItImage: "img-src", api.ItFont: "font-src", api.ItMedia: "media-src", api.ItFrame: "frame-src", api.ItObject: "object-src", api.ItManifest: "manifest-src", api.ItConnect: "connect-src", api.ItBase: "base-uri", api.ItForm: "form-action"}
	for kind, name := range names {
		x := api.Item{Kind: kind, URL: "https://a.b/x"}
		check(t, name+" 'self'", x, "")
		check(t, name+" https://a.b/x", x, "")
		check(t, name+" https://a.b/y", x, name)
		check(t, name+" 'none'", x, name)
		check(t, name, x, name)
		check(t, name+" 'unsafe-inline'", x, name)
		chained := map[bool]string{true: "default-src"}[kind != api.ItBase && kind != api.ItForm]
		check(t, "default-src x", x, chained)
		check(t, "default-src x; "+name+" *", x, "")
		for _, bad := range []string{"", "x", "http://", "/x", "https://a.b/" + strings.Repeat("x", 4000)} {
			check(t, name+" * 'self' data:", api.Item{Kind: kind, URL: bad}, name)
			check(t, "", api.Item{Kind: kind, URL: bad}, "")
		}
		x.Nonce, x.Integrity = "n", "sha256-x"
		nonce := kind == api.ItScript || kind == api.ItStyle
		check(t, name+" 'nonce-n'", x, map[bool]string{false: name}[nonce])
		check(t, name+" 'nonce-m'", x, name)
		check(t, name+" 'sha256-x'", x, map[bool]string{false: name}[kind == api.ItScript])
		check(t, name+" 'self' 'strict-dynamic'", x, map[bool]string{true: name}[kind == api.ItScript])
		check(t, name+" 'none' 'nonce-n'", x, map[bool]string{false: name}[nonce])
		bad := x
		bad.URL = ":"
		check(t, name+" 'nonce-n' 'sha256-x'", bad, name)
	}
}

// P31.1: trusted types, and kinds that are none.
func TestOthers(t *testing.T) {
	java := api.Item{Kind: api.ItJava, Text: "javascript:1"}
	const requires = "require-trusted-types-for"
	check(t, requires+" 'script'", java, requires)
	check(t, requires+" 'SCRIPT'; script-src 'unsafe-inline'", java, requires)
	check(t, requires+" 'script'; script-src 'self'", java, "script-src")
	check(t, requires+" x", java, "")
	check(t, "trusted-types 'none'", java, "")
	for _, kind := range []int{api.ItInline, api.ItHandler, api.ItImage, api.ItBase, 0, 99} {
		check(t, requires+" 'script'", api.Item{Kind: kind, Text: "x"}, "")
	}
	for _, kind := range []int{-1, 0, 17, 1 << 62} {
		check(t, "default-src 'none'; script-src 'none'; img-src 'none'", api.Item{Kind: kind}, "")
	}
}

// P31.2: Ask.
func TestAsk(t *testing.T) {
	report := func(s string) api.Policy { return api.Policy{List: policy.One(s), Report: true} }
	l := []api.Policy{one("script-src 'self' 'nonce-n'"), report("img-src 'none'"), report("default-src 'none'"), one("default-src 'none'; base-uri 'none'"), one("script-src-elem 'none'")}
	type violation = api.Violation
	for _, x := range []struct {
		l         []api.Policy
		item      api.Item
		mark      int
		directive string
		want      []violation
	}{
		{nil, api.Item{Kind: api.ItInline}, api.MaAllowed, "", nil},
		{l[:2], api.Item{Kind: api.ItInline, Text: "y", Nonce: "n"}, api.MaAllowed, "", nil},
		{l[:2], api.Item{Kind: api.ItInline, Text: "y"}, api.MaBlocked, "script-src", []violation{{Item: 7, Directive: "script-src"}}},
		{l[:2], api.Item{Kind: api.ItImage, URL: "https://a.b/x"}, api.MaReported, "", []violation{{Item: 7, Policy: 1, Directive: "img-src", Report: true}}},
		{l[:2], api.Item{Kind: api.ItJava, Text: "javascript:1"}, api.MaBlocked, "script-src", []violation{{Item: 7, Directive: "script-src"}}},
		{l[:2], api.Item{Kind: api.ItBase, URL: "https://c/"}, api.MaAllowed, "", nil},
		{l[1:], api.Item{Kind: api.ItImage, URL: "https://a.b/x"}, api.MaBlocked, "default-src", []violation{{Item: 7, Directive: "img-src", Report: true}, {Item: 7, Policy: 1, Directive: "default-src", Report: true}, {Item: 7, Policy: 2, Directive: "default-src"}}},
		{l, api.Item{Kind: api.ItInline}, api.MaBlocked, "script-src", []violation{{Item: 7, Directive: "script-src"}, {Item: 7, Policy: 2, Directive: "default-src", Report: true}, {Item: 7, Policy: 3, Directive: "default-src"}, {Item: 7, Policy: 4, Directive: "script-src-elem"}}},
		{l, api.Item{Kind: api.ItScript, URL: "https://a.b/x"}, api.MaBlocked, "default-src", []violation{{Item: 7, Policy: 2, Directive: "default-src", Report: true}, {Item: 7, Policy: 3, Directive: "default-src"}, {Item: 7, Policy: 4, Directive: "script-src-elem"}}},
		{l, api.Item{Kind: api.ItBase, URL: "https://c/"}, api.MaBlocked, "base-uri", []violation{{Item: 7, Policy: 3, Directive: "base-uri"}}},
		{l, api.Item{Kind: 99}, api.MaAllowed, "", nil},
	} {
		verdict, got := judge.Ask(x.l, x.item, own, 7)
		if !reflect.DeepEqual(got, x.want) || verdict != (api.Verdict{Item: x.item, Mark: x.mark, Directive: x.directive}) {
			t.Errorf("%+v: %+v, %+v; want %d, %+v", x.item, verdict, got, x.mark, x.want)
		}
	}
	if _, got := judge.Ask(l[:1], api.Item{Kind: api.ItInline}, own, -5); got[0].Item != -5 {
		t.Errorf("place: %+v", got)
	}
}

// P31.3: what follows.
func TestWhatFollows(t *testing.T) {
	r := rand.New(rand.NewSource(31))
	values := strings.Fields("'self' 'none' 'unsafe-inline' 'nonce-n' https: * 'strict-dynamic' a.b x")
	directives := strings.Fields("default-src script-src script-src-elem script-src-attr style-src img-src base-uri form-action require-trusted-types-for")
	random := func() api.Policy {
		var parts []string
		for range r.Intn(3) {
			parts = append(parts, directives[r.Intn(len(directives))]+" "+values[r.Intn(len(values))]+" "+values[r.Intn(len(values))])
		}
		return api.Policy{List: policy.One(strings.Join(parts, ";")), Report: r.Intn(2) == 0}
	}
	for range 5000 {
		var l []api.Policy
		for range r.Intn(3) {
			l = append(l, random())
		}
		x := api.Item{Kind: 1 + r.Intn(16), URL: []string{"https://a.b/x", "http://x/", "data:y"}[r.Intn(3)], Text: "y", Nonce: []string{"", "n"}[r.Intn(2)]}
		more := random()
		was, before := judge.Ask(l, x, own, 1)
		now, behind := judge.Ask(append(append([]api.Policy{}, l...), more), x, own, 1)
		if was.Mark == api.MaBlocked && now.Mark != api.MaBlocked || more.Report && (was.Mark == api.MaBlocked) != (now.Mark == api.MaBlocked) {
			t.Fatalf("%+v: %d, then %d by %+v", x, was.Mark, now.Mark, more)
		}
		if !reflect.DeepEqual(before, behind[:len(before)]) && len(before) > 0 || len(behind) > len(before)+1 || now.Mark == api.MaBlocked && now.Directive == "" {
			t.Fatalf("%+v: %+v, then %+v", x, before, behind)
		}
	}
}
