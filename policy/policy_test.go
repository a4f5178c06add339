package policy_test

import (
	"math/rand"
	"reflect"
	"strings"
	"testing"

	"lazaret/api"
	"lazaret/policy"
)

// text are policies, as text, those that report with a ! ahead.
func text(l []api.Policy) string {
	var texts []string
	for _, p := range l {
		s := policy.Text(p)
		if p.Report {
			s = "!" + s
		}
		texts = append(texts, s)
	}
	return strings.Join(texts, " | ")
}

// P24.1: One.
func TestOne(t *testing.T) {
	for s, want := range map[string]string{
		"": "", " ; ;": "", "Img-Src a  b; ;script-src;img-src c": "img-src a b; script-src", "a\tB\nC\fd\re": "a B C d e", "a;A;a b": "a", "a,b c,": "a,b c,", "a b;": "a b", ";a": "a", "a=b 'self' 'SELF'": "a=b 'self' 'SELF'", "é\u00a0x \xff": "é\u00a0x \xff", "a a": "a a", "a\vb": "a\vb", "B x;a y": "b x; a y",
	} {
		if got := policy.Text(api.Policy{List: policy.One(s)}); got != want {
			t.Errorf("One(%q) = %q", s, got)
		}
	}
	got := policy.One("A B c;d")
	if !reflect.DeepEqual(got[0], api.Directive{Name: "a", Values: []string{"B", "c"}}) || got[1].Name != "d" || len(got[1].Values) != 0 || len(got) != 2 {
		t.Errorf("%+v", got)
	}
}

// P24.1: List.
func TestList(t *testing.T) {
	for s, want := range map[string]string{"": "", ",": "", " , ;,": "", "a b, ;,c": "a b | c", "a;b,a": "a; b | a", "a": "a", "a b,a b": "a b | a b", "'x,y'": "'x | y'"} {
		if got := text(policy.List(s, false)); got != want {
			t.Errorf("List(%q) = %q", s, got)
		}
		if want != "" {
			want = "!" + strings.ReplaceAll(want, " | ", " | !")
		}
		if got := text(policy.List(s, true)); got != want {
			t.Errorf("List(%q, true) = %q", s, got)
		}
	}
}

const (
	csp = "Content-Security-Policy"
	ro  = "content-security-policy-report-only"
)

// P24.2: Headers.
func TestHeaders(t *testing.T) {
	for _, x := range []struct {
		headers []api.Header
		want    string
	}{
		{nil, ""}, {[]api.Header{{Name: csp, Value: "a, b"}, {Name: "x", Value: "c"}, {Name: strings.ToUpper(ro), Value: "d,e"}, {Name: strings.ToLower(csp), Value: "f"}}, "a | b | !d | !e | f"},
		{[]api.Header{{Name: csp + " ", Value: "a"}, {Name: "Content-Security-Policy-Report", Value: "a"}, {Name: "", Value: "a"}, {Name: "X-Content-Security-Policy", Value: "a"}, {Name: csp, Value: " "}, {Name: "Content-\u017fecurity-Policy", Value: "a"}}, ""},
	} {
		got, e := policy.Headers(x.headers)
		if text(got) != x.want || e != api.OK {
			t.Errorf("%+v: %q, %d", x.headers, text(got), e)
		}
	}
}

// P24.2: limits.
func TestHeadersLimits(t *testing.T) {
	many := func(n int, h api.Header) []api.Header {
		var l []api.Header
		for range n {
			l = append(l, h)
		}
		return l
	}
	long := strings.Repeat("x", api.MaxHeader)
	for _, x := range []struct {
		headers []api.Header
		n       int
		want    api.Errno
	}{
		{many(16, api.Header{Name: csp, Value: "a"}), 16, api.OK}, {many(17, api.Header{Name: csp, Value: ""}), 0, api.ErrLong}, {many(17, api.Header{Name: "x"}), 0, api.ErrLong}, {many(16, api.Header{Name: "x"}), 0, api.OK},
		{many(1, api.Header{Name: csp, Value: long}), 1, api.OK}, {many(1, api.Header{Name: csp, Value: long + "x"}), 0, api.ErrLong}, {many(1, api.Header{Name: "x", Value: long + "x"}), 0, api.ErrLong}, {[]api.Header{{Name: csp, Value: "a"}, {Name: csp, Value: long + " "}}, 0, api.ErrLong},
		{many(1, api.Header{Name: ro, Value: strings.Repeat("a,", 16)}), 16, api.OK}, {many(1, api.Header{Name: ro, Value: strings.Repeat("a,", 17)}), 0, api.ErrLong}, {[]api.Header{{Name: ro, Value: strings.Repeat("a,", 9)}, {Name: csp, Value: strings.Repeat("a,", 8)}}, 0, api.ErrLong}, {[]api.Header{{Name: csp, Value: strings.Repeat("a,", 16)}, {Name: "x", Value: "b"}}, 16, api.OK},
	} {
		got, e := policy.Headers(x.headers)
		if len(got) != x.n || e != x.want {
			t.Errorf("%d headers: %d policies, %d; want %d, %d", len(x.headers), len(got), e, x.n, x.want)
		}
	}
}

// P24.3: Meta.
func TestMeta(t *testing.T) {
	for s, want := range map[string]string{"sandbox; a, b": "a, b", "a;report-uri x;b;Frame-Ancestors y;SANDBOX": "a; b", "a, b; c": "a, b; c", "a": "a", "sandboxed": "sandboxed", "report-to x": "report-to x"} {
		p, ok := policy.Meta(s)
		if policy.Text(p) != want || !ok || p.Report {
			t.Errorf("Meta(%q) = %q, %v", s, policy.Text(p), ok)
		}
	}
	for _, s := range []string{"", " ; ", "report-uri x", "sandbox;frame-ancestors y;REPORT-URI"} {
		if p, ok := policy.Meta(s); ok || p.List != nil || p.Report {
			t.Errorf("Meta(%q) = %+v, %v", s, p, ok)
		}
	}
}

// P24.4: Find.
func TestFind(t *testing.T) {
	p := api.Policy{List: []api.Directive{{Name: "a", Values: []string{"x"}}, {Name: "B"}, {Name: "a", Values: []string{"y"}}, {Name: ""}}}
	for name, ok := range map[string]bool{"a": true, "B": true, "": true, "b": false, "A": false, "a ": false} {
		d, got := policy.Find(p, name)
		if got != ok || d.Name != map[bool]string{true: name}[ok] || (len(d.Values) == 1 && d.Values[0] == "x") != (name == "a") {
			t.Errorf("Find(%q) = %+v, %v", name, d, got)
		}
	}
	d, _ := policy.Find(p, "a")
	d.Values[0] = "z"
	if p.List[0].Values[0] != "x" {
		t.Error("shared")
	}
	if _, ok := policy.Find(api.Policy{}, "a"); ok {
		t.Error("of none")
	}
}

// P24.4: Text.
func TestText(t *testing.T) {
	for want, p := range map[string]api.Policy{
		"": {}, "a": {List: []api.Directive{{Name: "a"}}}, "a b c; D; a": {List: []api.Directive{{Name: "a", Values: []string{"b", "c"}}, {Name: "D"}, {Name: "a"}}, Report: true}, " x; ": {List: []api.Directive{{Values: []string{"x"}}, {}}},
	} {
		if got := policy.Text(p); got != want {
			t.Errorf("Text(%+v) = %q", p, got)
		}
	}
}

// P24.5: what follows.
func TestWhatFollows(t *testing.T) {
	r := rand.New(rand.NewSource(24))
	const some = "abAB ;;,'\t-é\xff"
	noise := func() string {
		b := make([]byte, r.Intn(14))
		for i := range b {
			b[i] = some[r.Intn(len(some))]
		}
		return string(b)
	}
	for range 5000 {
		s, more := noise(), noise()
		l := policy.One(s)
		if again := policy.One(policy.Text(api.Policy{List: l})); policy.Text(api.Policy{List: again}) != policy.Text(api.Policy{List: l}) || len(again) != len(l) {
			t.Fatalf("%q: %+v, %+v", s, l, again)
		}
		one, _ := policy.Headers([]api.Header{{Name: csp, Value: s}})
		two, _ := policy.Headers([]api.Header{{Name: csp, Value: s}, {Name: csp, Value: more}})
		if text(two[:len(one)]) != text(one) || len(policy.List(s+","+more, false)) != len(two) {
			t.Fatalf("%q and %q: %q, %q", s, more, text(one), text(two))
		}
	}
}
