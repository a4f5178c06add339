package loader_test

import (
	"math/rand"
	"reflect"
	"strings"
	"testing"

	"lazaret/api"
	"lazaret/items"
	"lazaret/judge"
	"lazaret/loader"
	"lazaret/policy"
	"lazaret/tree"
	"lazaret/urls"
)

var pieces = []string{
	"<p>", "</p>", "<b>", "</b>", "<table>", "<td>", "</table>", "<svg>", "</svg>", "<template>", "</template>", "x", " ", "\"", "'", ">", "<!--", "-->", "<title>", "</title>",
	"<script>x</script>", "<script nonce=n>y</script>", "<script nonce=n ", "<script nonce=n a a>z</script>", "<script src=s>", "</script>", "<style nonce=n>a{}</style>", "<style>", "</style>", "<img src=i onerror=h>", "<a href=javascript:j>", "<p style=r>", "<base href=/c/>", "<base href=http://d/>", "<iframe src=f></iframe>", "<form action=g>", "<link rel=stylesheet href=l nonce=n>", "<textarea>", "</textarea>", "<p title=\"", "<script nonce=n x='<script'>w</script>",
	named + "img-src 'none'\">", named + "script-src 'nonce-n'; report-uri u\">", named + "base-uri 'self'\">",
}

var said = []string{
	"script-src 'nonce-n'", "default-src 'none'", "img-src https:; style-src 'self'", "script-src 'self' 'unsafe-inline'", "base-uri 'self'", "form-action 'none'; frame-src x", "default-src 'self' 'nonce-n'", "require-trusted-types-for 'script'", "style-src 'unsafe-inline'", "script-src 'strict-dynamic' 'nonce-n'; style-src-attr 'none'",
}

// noise is a document of some pieces.
func noise(r *rand.Rand, most int) string {
	var out strings.Builder
	for range r.Intn(most) {
		out.WriteString(pieces[r.Intn(len(pieces))])
	}
	return out.String()
}

// some are values of headers, of which those with a ! report.
func some(r *rand.Rand) []string {
	var values []string
	for range r.Intn(3) {
		values = append(values, strings.Repeat("!", r.Intn(2))+said[r.Intn(len(said))])
	}
	return values
}

// P0.1: the tree is the one that the rules make, whatever the headers say.
func TestSameTree(t *testing.T) {
	r := rand.New(rand.NewSource(1))
	for range 1500 {
		bytes := noise(r, 12)
		want, e := tree.Parse(bytes)
		got, e2 := loader.Load(headers(some(r)...), doc, bytes)
		if e != e2 || !reflect.DeepEqual(got.Tree, want) {
			t.Fatalf("%q: %d, %d", bytes, e, e2)
		}
	}
}

// P0.2, P0.7: each item's mark and violations, by the policies that count at its
// place.
func TestMarks(t *testing.T) {
	r := rand.New(rand.NewSource(2))
	own, _ := urls.Parse(doc, nil)
	for range 1500 {
		values, bytes := some(r), noise(r, 12)
		got := load(t, headers(values...), doc, bytes)
		order := map[int]int{}
		for place, node := range items.Order(got.Tree) {
			order[node] = place
		}
		counts, _ := policy.Headers(headers(values...))
		metas := metasOf(got.Tree)
		var want []api.Violation
		for i, v := range got.Verdicts {
			l := counts
			for _, m := range metas {
				if order[m.node] < order[v.Item.Node] {
					l = append(l[:len(l):len(l)], m.policy)
				}
			}
			blocked := ""
			reported := false
			for k, p := range l {
				directive, fails := judge.Fails(p, v.Item, own)
				if !fails {
					continue
				}
				want = append(want, api.Violation{Item: i, Policy: k, Directive: directive, Report: p.Report})
				if p.Report {
					reported = true
				} else if blocked == "" {
					blocked = directive
				}
			}
			mark := api.MaAllowed
			if blocked != "" {
				mark = api.MaBlocked
			} else if reported {
				mark = api.MaReported
			}
			if v.Mark != mark || v.Directive != blocked {
				t.Fatalf("%q: %q: %+v, want %d by %q", values, bytes, v, mark, blocked)
			}
		}
		if len(want)+len(got.Violations) > 0 && !reflect.DeepEqual(got.Violations, want) {
			t.Fatalf("%q: %q: %+v, want %+v", values, bytes, got.Violations, want)
		}
	}
}

type meta struct {
	node   int
	policy api.Policy
}

// metasOf are the policies of a tree's meta elements, in order.
func metasOf(t api.Tree) []meta {
	var list []meta
	for _, node := range items.Order(t) {
		if content, ok := items.Policy(t, node); ok {
			if p, ok := policy.Meta(content); ok {
				list = append(list, meta{node, p})
			}
		}
	}
	return list
}

// P0.3: bytes that have neither the nonce nor a reference let no script or
// style through by it whose start tag is theirs.
func TestDangling(t *testing.T) {
	r := rand.New(rand.NewSource(3))
	h := headers("script-src 'nonce-secret'; style-src 'nonce-secret'")
	nonced := strings.NewReplacer("nonce=n", "nonce=secret")
	allowed := 0
	for range 8000 {
		ahead := nonced.Replace(noise(r, 6))
		behind := strings.NewReplacer("nonce=n", "nonce=x").Replace(noise(r, 8))
		got := load(t, h, doc, ahead+behind)
		for _, v := range got.Verdicts {
			n := got.Tree.Nodes[v.Item.Node]
			element := v.Item.Kind == api.ItInline || v.Item.Kind == api.ItScript || v.Item.Kind == api.ItSheet || v.Item.Kind == api.ItStyle
			if !element || v.Mark == api.MaBlocked {
				continue
			}
			allowed++
			if n.From < 0 || n.From >= len(ahead) {
				t.Fatalf("%q, %q: %+v of %d", ahead, behind, v, n.From)
			}
		}
	}
	if allowed == 0 {
		t.Error("nothing was allowed")
	}
}

// P0.4: tags that may have taken a nonce that was not theirs.
func TestNoNonce(t *testing.T) {
	h := []string{"script-src 'nonce-n'"}
	for _, tag := range []string{"<script nonce=n a a>", "<script nonce=n nonce=n>", "<script a='<script' nonce=n>", "<script nonce=n a=\"x<STYLE\">", "<script nonce=n <script>", "<script nonce=n x<style=1>", "<script x='\n<p title=\"<script' nonce=n>"} {
		check(t, h, tag+"x</script>", "inline x: blocked by script-src")
		check(t, h, strings.Replace(tag, "<script ", "<script src=s ", 1)+"</script>", "script https://a.b/s: blocked by script-src")
	}
	check(t, h, "<script nonce=n a b='script'>x</script>", "inline x: allowed")
}

// marks are the marks of items, by node, kind and attribute.
func marks(r api.Result) map[api.Item]int {
	m := map[api.Item]int{}
	for _, v := range r.Verdicts {
		m[v.Item] = v.Mark
	}
	return m
}

// P0.5, P32.3: a policy more in the headers.
func TestPolicyMore(t *testing.T) {
	r := rand.New(rand.NewSource(5))
	for range 3000 {
		values, bytes, more := some(r), noise(r, 12), said[r.Intn(len(said))]
		was := load(t, headers(values...), doc, bytes)
		now := load(t, headers(append([]string{more}, values...)...), doc, bytes)
		behind := load(t, headers(append(append([]string{}, values...), "!"+more)...), doc, bytes)
		if !reflect.DeepEqual(was.Tree, now.Tree) || !reflect.DeepEqual(was.Tree, behind.Tree) || len(was.Verdicts) != len(behind.Verdicts) {
			t.Fatalf("%q and %q: %q: other trees", values, more, bytes)
		}
		for i, v := range was.Verdicts {
			if w := behind.Verdicts[i]; w.Item != v.Item || (w.Mark == api.MaBlocked) != (v.Mark == api.MaBlocked) {
				t.Fatalf("%q and %q that reports: %q: %+v, %+v", values, more, bytes, v, w)
			}
		}
		blocksBase := false
		for _, v := range now.Verdicts {
			blocksBase = blocksBase || v.Item.Kind == api.ItBase && v.Mark == api.MaBlocked
		}
		if blocksBase {
			continue
		}
		before := marks(was)
		for _, v := range now.Verdicts {
			mark, ok := before[v.Item]
			if !ok || mark == api.MaBlocked && v.Mark != api.MaBlocked {
				t.Fatalf("%q and %q: %q: %+v, %d before", values, more, bytes, v, mark)
			}
		}
	}
}

// P0.6, P32.3: what stands behind changes nothing of what stands ahead.
func TestAheadAlone(t *testing.T) {
	r := rand.New(rand.NewSource(6))
	for range 2000 {
		values := some(r)
		ahead := "<head>" + strings.Join([]string{"<style nonce=n>a{}</style>", "<script>x</script>", "<link rel=icon href=i>", "<base href=/c/>", ""}[:1+r.Intn(5)], "")
		behind := noise(r, 8)
		was, now := load(t, headers(values...), doc, ahead), load(t, headers(values...), doc, ahead+behind)
		if n := len(was.Verdicts); len(now.Verdicts) < n || n > 0 && !reflect.DeepEqual(now.Verdicts[:n], was.Verdicts) {
			t.Fatalf("%q: %q, %q: %q, then %q", values, ahead, behind, told(was), told(now))
		}
		if n := len(was.Violations); len(now.Violations) < n || n > 0 && !reflect.DeepEqual(now.Violations[:n], was.Violations) {
			t.Fatalf("%q: %q, %q: violations", values, ahead, behind)
		}
		for _, p := range now.Policies[min(len(now.Policies), len(was.Policies)):] {
			for _, d := range p.List {
				if p.Report || d.Name == "report-uri" || d.Name == "frame-ancestors" || d.Name == "sandbox" {
					t.Fatalf("%q: %+v", behind, p)
				}
			}
		}
	}
}

// P0.8: how many nodes there are, and how often rules are asked.
func TestBounds(t *testing.T) {
	r := rand.New(rand.NewSource(8))
	for range 1500 {
		bytes := noise(r, 20)
		got, e := loader.Load(nil, doc, bytes)
		steps, e2 := tree.Steps(bytes)
		if n := len(bytes); e != api.OK || e2 != api.OK || len(got.Tree.Nodes) > 200*n+20 || steps > 600*n+600 {
			t.Fatalf("%q: %d nodes, %d steps, %d, %d", bytes, len(got.Tree.Nodes), steps, e, e2)
		}
	}
}

// Whatever is handed in, Load and Judge end, and tell an error, or a result.
func TestAnything(t *testing.T) {
	r := rand.New(rand.NewSource(9))
	for range 300 {
		nodes := make([]api.Node, r.Intn(6))
		for i := range nodes {
			nodes[i] = api.Node{Kind: r.Intn(9) - 1, Space: r.Intn(5) - 1, Name: []string{"base", "script", "meta", "head", "template"}[r.Intn(5)], Parent: r.Intn(9) - 2, Content: r.Intn(9) - 2, Kids: []int{r.Intn(9) - 2, r.Intn(9) - 2}, Attrs: []api.Attr{{Name: "href", Value: "\xff"}, {Name: "src", Value: "x"}}}
		}
		u := api.URL{Scheme: []string{"", "https", "data"}[r.Intn(3)], HasHost: r.Intn(2) == 0, Host: "a", Port: r.Intn(3) - 2}
		if res, e := loader.Judge([]api.Policy{{}, {List: []api.Directive{{}}}}, u, api.Tree{Nodes: nodes}); e != api.OK || len(res.Tree.Nodes) != len(nodes) {
			t.Fatalf("%+v: %d", nodes, e)
		}
	}
	for _, bytes := range []string{"\x00\xff<", strings.Repeat("\xf0", 300), "<script nonce=n\x00>"} {
		if _, e := loader.Load([]api.Header{{Name: "\xff", Value: "\x00"}, {Name: csp, Value: "\xff \x00; ;,"}}, doc, bytes); e != api.OK {
			t.Errorf("%q: %d", bytes, e)
		}
	}
}
