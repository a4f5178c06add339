package loader_test

import (
	"reflect"
	"slices"
	"strconv"
	"strings"
	"testing"

	"lazaret/api"
	"lazaret/loader"
	"lazaret/policy"
	"lazaret/tree"
	"lazaret/urls"
)

const (
	csp = "Content-Security-Policy"
	ro  = "Content-Security-Policy-Report-Only"
	doc = "https://a.b/"
)

// headers are headers of values; those with a ! ahead report.
func headers(values ...string) []api.Header {
	var l []api.Header
	for _, v := range values {
		if said, ok := strings.CutPrefix(v, "!"); ok {
			l = append(l, api.Header{Name: ro, Value: said})
		} else {
			l = append(l, api.Header{Name: csp, Value: v})
		}
	}
	return l
}

var kinds = [...]string{"none", "script", "inline", "handler", "java", "style", "sheet", "rule", "image", "font", "media", "frame", "object", "manifest", "connect", "base", "form"}

// told are a result's verdicts, as text.
func told(r api.Result) []string {
	var list []string
	for _, v := range r.Verdicts {
		mark := map[int]string{api.MaAllowed: "allowed", api.MaBlocked: "blocked by " + v.Directive, api.MaReported: "reported"}[v.Mark]
		if v.Mark != api.MaBlocked {
			mark += v.Directive
		}
		list = append(list, kinds[v.Item.Kind]+" "+v.Item.URL+v.Item.Text+": "+mark)
	}
	return list
}

// violated are a result's violations, as text.
func violated(r api.Result) []string {
	var list []string
	for _, v := range r.Violations {
		s := strconv.Itoa(v.Item) + " " + strconv.Itoa(v.Policy) + " " + v.Directive
		if v.Report {
			s += "!"
		}
		list = append(list, s)
	}
	return list
}

func load(t *testing.T, h []api.Header, url, bytes string) api.Result {
	t.Helper()
	r, e := loader.Load(h, url, bytes)
	if e != api.OK {
		t.Fatalf("%q: %d", bytes, e)
	}
	return r
}

// check loads a document by some headers' values, and holds what is told
// against what is to be.
func check(t *testing.T, values []string, bytes string, want ...string) api.Result {
	t.Helper()
	r := load(t, headers(values...), doc, bytes)
	if got := told(r); !slices.Equal(got, want) {
		t.Errorf("%q: %q: %q, want %q", values, bytes, got, want)
	}
	return r
}

// The ten examples of the whole.
func TestTenExamples(t *testing.T) {
	h := []string{"script-src 'nonce-n'; img-src https:"}
	check(t, h, "<script>x</script>", "inline x: blocked by script-src")
	check(t, h, "<script nonce=n>x</script>", "inline x: allowed")
	check(t, h, "<script nonce=n nonce=m>x</script>", "inline x: blocked by script-src")
	check(t, h, `<p title="<script nonce=n>x</script>`)
	check(t, h, "<img src=x onerror=y>", "handler y: blocked by script-src", "image https://a.b/x: allowed")
	check(t, h, "<a href=javascript:x>", "java javascript:x: blocked by script-src")
	check(t, h, "<template><script>x</script></template>")
	based := "<base href=http://c/><img src=x>"
	check(t, h, based, "base http://c/: allowed", "image http://c/x: blocked by img-src")
	check(t, []string{h[0] + "; base-uri 'none'"}, based, "base http://c/: blocked by base-uri", "image https://a.b/x: allowed")
	all := "<script>x</script><img src=x onerror=y><a href=javascript:x><base href=http://c/><img src=y>"
	blocked := load(t, headers(h[0]), doc, all)
	reported := check(t, []string{"!" + h[0]}, all, "inline x: reported", "handler y: reported", "image https://a.b/x: allowed", "java javascript:x: reported", "base http://c/: allowed", "image http://c/y: reported")
	if len(reported.Violations) != len(blocked.Violations) || len(blocked.Violations) != 4 {
		t.Errorf("%q, %q", violated(blocked), violated(reported))
	}
}

// P32.2: Load, whole.
func TestLoad(t *testing.T) {
	h := headers("script-src 'nonce-n', img-src x", "!default-src 'none'; base-uri 'none'")
	r := load(t, h, "HTTPS://u@A.b:443/d/e#f", "<!doctype html><script>x</script><img src=y>")
	tr, _ := tree.Parse("<!doctype html><script>x</script><img src=y>")
	policies, _ := policy.Headers(h)
	if !reflect.DeepEqual(r.Tree, tr) || !reflect.DeepEqual(r.Policies, policies) || r.Base != "https://u@a.b/d/e#f" {
		t.Errorf("%+v", r)
	}
	if got := told(r); !slices.Equal(got, []string{"inline x: blocked by script-src", "image https://u@a.b/d/y: blocked by img-src"}) {
		t.Errorf("%q", got)
	}
	if got := violated(r); !slices.Equal(got, []string{"0 0 script-src", "0 2 default-src!", "1 1 img-src", "1 2 default-src!"}) {
		t.Errorf("%q", got)
	}
	r = load(t, nil, "data:x", "")
	if len(r.Policies)+len(r.Verdicts)+len(r.Violations) != 0 || len(r.Tree.Nodes) != 4 || !r.Tree.Quirks || r.Base != "data:x" {
		t.Errorf("%+v", r)
	}
}

// P32.2, P0.1: errors, in their order, and nothing else beside them.
func TestErrors(t *testing.T) {
	long, deep := strings.Repeat("x", api.MaxBytes+1), strings.Repeat("<div>", 600)
	wide := []api.Header{{Name: "x", Value: strings.Repeat("x", api.MaxHeader+1)}}
	many := headers(strings.Repeat("a,", 17))
	meta := "<meta http-equiv=content-security-policy content=a>"
	for _, x := range []struct {
		h          []api.Header
		url, bytes string
		want       api.Errno
	}{
		{nil, "", "", api.ErrDoc}, {nil, "x", "", api.ErrDoc}, {nil, "http://", "", api.ErrDoc}, {nil, "https://a/" + strings.Repeat("x", 4000), "", api.ErrDoc}, {wide, "x", long, api.ErrDoc}, {wide, doc, "", api.ErrLong}, {many, doc, "", api.ErrLong}, {make([]api.Header, 17), doc, "", api.ErrLong}, {many, doc, deep, api.ErrLong}, {nil, doc, long, api.ErrLong}, {nil, doc, deep, api.ErrDepth}, {wide, doc, deep, api.ErrLong}, {headers(strings.Repeat("a,", 16)), doc, meta, api.ErrLong}, {nil, doc, strings.Repeat(meta, 17), api.ErrLong},
		{headers(strings.Repeat("a,", 16)), doc, "", api.OK}, {nil, doc, strings.Repeat(meta, 16), api.OK}, {make([]api.Header, 16), doc, long[1:], api.OK}, {headers(strings.Repeat("a,", 15)), doc, meta, api.OK},
	} {
		r, e := loader.Load(x.h, x.url, x.bytes)
		if e != x.want || e != api.OK && !reflect.DeepEqual(r, api.Result{}) || e == api.OK && len(r.Tree.Nodes) == 0 {
			t.Errorf("%d headers, %.20q, %.20q: %d, want %d", len(x.h), x.url, x.bytes, e, x.want)
		}
	}
}

// P32.1: bases.
func TestBases(t *testing.T) {
	check(t, nil, "<img src=x><base href=/c/><img src=x>", "image https://a.b/x: allowed", "base https://a.b/c/: allowed", "image https://a.b/c/x: allowed")
	r := check(t, nil, "<base href=c/d><base href=e/><img src=x>", "base https://a.b/c/d: allowed", "image https://a.b/c/x: allowed")
	if r.Base != "https://a.b/c/d" {
		t.Errorf("%q", r.Base)
	}
	r = check(t, []string{"base-uri 'self'"}, "<base href=http://c/><base href=/d/><img src=x>", "base http://c/: blocked by base-uri", "image https://a.b/x: allowed")
	if r.Base != doc {
		t.Errorf("%q", r.Base)
	}
	check(t, []string{"!base-uri 'self'"}, "<base href=http://c/><img src=x>", "base http://c/: reported", "image http://c/x: allowed")
	for _, href := range []string{"data:x", "javascript:x", "DATA:x,y", "java&Tab;script:x"} {
		r := load(t, nil, doc, "<base href="+href+"><base href=/d/><img src=x>")
		if len(r.Verdicts) != 2 || r.Verdicts[0].Mark != api.MaAllowed || r.Verdicts[1].Item.URL != "https://a.b/x" || r.Base != doc {
			t.Errorf("%s: %q", href, told(r))
		}
	}
	check(t, nil, "<base><base href=''><base target=x><base href=http://><base href=/d/><img src=x>", "base https://a.b/d/: allowed", "image https://a.b/d/x: allowed")
	check(t, nil, "<base href=b:><img src=x><img src=#x>", "base b:: allowed", "image b:#x: allowed")
	check(t, nil, "<base href=/d/><base href=x onclick=1 style=2>", "base https://a.b/d/: allowed", "handler 1: allowed", "rule 2: allowed")
	check(t, nil, "<body><p><base href=/d/><a href=x><img src=x>", "base https://a.b/d/: allowed", "image https://a.b/d/x: allowed")
	check(t, nil, "<template><base href=/d/></template><img src=x>", "image https://a.b/x: allowed")
}

// P32.1: a base's text that is too long to be read again.
func TestLongBase(t *testing.T) {
	href := strings.Repeat("\u00e9", 1500)
	r := load(t, nil, doc, "<base href='"+href+"'><base href=/d/><img src=x>")
	if len(r.Verdicts) != 2 || r.Base != doc || r.Verdicts[1].Item.URL != "https://a.b/x" || r.Verdicts[0].Mark != api.MaAllowed {
		t.Errorf("%d verdicts, base %.30q", len(r.Verdicts), r.Base)
	}
	href = strings.Repeat("x", api.MaxURL-len(doc))
	if r = load(t, nil, doc, "<base href='"+href+"'><img src=x>"); r.Base != doc+href {
		t.Errorf("base %.30q", r.Base)
	}
}

// P32.1: the base of a node named base is the document's own.
func TestBaseOfBase(t *testing.T) {
	own, _ := urls.Parse("https://a.b/d/e", nil)
	node := func(name string, parent int, kids ...int) api.Node {
		return api.Node{Kind: api.NoElement, Name: name, Parent: parent, Kids: kids, Attrs: []api.Attr{{Name: "href", Value: "x/"}, {Name: "rel", Value: "icon"}}}
	}
	tr := api.Tree{Nodes: []api.Node{node("html", -1, 1, 2, 3), node("base", 0), node("link", 0), {Kind: api.NoElement, Name: "base", Space: api.SpSVG}}}
	r, e := loader.Judge(nil, own, tr)
	if e != api.OK || !slices.Equal(told(r), []string{"base https://a.b/d/x/: allowed", "image https://a.b/d/x/x/: allowed"}) || r.Base != "https://a.b/d/x/" {
		t.Errorf("%q, %d", told(r), e)
	}
}

const named = "<meta http-equiv=content-security-policy content=\""

// P32.1, P0.6: meta elements.
func TestMeta(t *testing.T) {
	const image = "<link rel=icon href=x>"
	check(t, nil, image+named+"img-src 'none'\">"+image, "image https://a.b/x: allowed", "image https://a.b/x: blocked by img-src")
	check(t, nil, "<body>"+named+"img-src 'none'\">"+image, "image https://a.b/x: allowed")
	check(t, nil, "<template>"+named+"img-src 'none'\"></template>"+image, "image https://a.b/x: allowed")
	check(t, nil, named+"img-src 'none'\"style=x>"+image, "rule x: allowed", "image https://a.b/x: blocked by img-src")
	check(t, nil, named+"style-src 'none'\"style=x><p style=y>", "rule x: allowed", "rule y: blocked by style-src")
	r := check(t, []string{"!default-src x"}, named+"report-uri y; sandbox; img-src z; frame-ancestors w\">"+named+"report-uri x\">"+named+"img-src 'self'\">"+image, "image https://a.b/x: blocked by img-src")
	var texts []string
	for _, p := range r.Policies {
		texts = append(texts, policy.Text(p))
	}
	if !slices.Equal(texts, []string{"default-src x", "img-src z", "img-src 'self'"}) || r.Policies[1].Report {
		t.Errorf("%q", texts)
	}
	if got := violated(r); !slices.Equal(got, []string{"0 0 default-src!", "0 1 img-src"}) {
		t.Errorf("%q", got)
	}
	check(t, nil, named+"img-src 'none', script-src 'none'\">"+image+"<script>x</script>", "image https://a.b/x: blocked by img-src", "inline x: allowed")
}

// P32.1: too many policies, of trees that are made by hand, too.
func TestTooMany(t *testing.T) {
	own, _ := urls.Parse(doc, nil)
	l := make([]api.Policy, 17)
	if r, e := loader.Judge(l, own, api.Tree{}); e != api.OK || len(r.Policies) != 17 || r.Base != doc {
		t.Errorf("no nodes: %d, %d policies", e, len(r.Policies))
	}
	if r, e := loader.Judge(l, own, api.Tree{Nodes: make([]api.Node, 1)}); e != api.ErrLong || !reflect.DeepEqual(r, api.Result{}) {
		t.Errorf("17: %d", e)
	}
	if _, e := loader.Judge(l[:16], own, api.Tree{Nodes: make([]api.Node, 1)}); e != api.OK {
		t.Errorf("16: %d", e)
	}
}

// P32.1: what is handed in stays, and is not shared.
func TestShares(t *testing.T) {
	own, _ := urls.Parse(doc, nil)
	l := []api.Policy{{List: policy.One("img-src x")}}
	tr, _ := tree.Parse("<p a=1><img src=x>")
	was, _ := tree.Parse("<p a=1><img src=x>")
	r, _ := loader.Judge(l, own, tr)
	r.Tree.Nodes[4].Attrs[0].Value = "changed"
	r.Tree.Nodes[0].Kids[0] = 9
	r.Policies[0].List[0].Values[0] = "changed"
	r.Policies[0].List[0].Name = "changed"
	if !reflect.DeepEqual(tr, was) || policy.Text(l[0]) != "img-src x" {
		t.Error("shared")
	}
	r, _ = loader.Judge(nil, own, tr)
	if !reflect.DeepEqual(r.Tree, was) {
		t.Error("the tree")
	}
}

// P32.1: order of verdicts, and the place of each.
func TestOrder(t *testing.T) {
	r := check(t, []string{"default-src 'none'"}, "<p style=1 onclick=2><img src=x onload=3></p><svg><a href=javascript:4>", "rule 1: blocked by default-src", "handler 2: blocked by default-src", "handler 3: blocked by default-src", "image https://a.b/x: blocked by default-src", "java javascript:4: blocked by default-src")
	if got := violated(r); !slices.Equal(got, []string{"0 0 default-src", "1 0 default-src", "2 0 default-src", "3 0 default-src", "4 0 default-src"}) {
		t.Errorf("%q", got)
	}
	check(t, []string{"default-src 'none'"}, "<table><tr><td><style>y</style></table><b style=1><p style=2></b>", "sheet y: blocked by default-src", "rule 1: blocked by default-src", "rule 2: blocked by default-src", "rule 1: blocked by default-src")
}
