package items_test

import (
	"fmt"
	"reflect"
	"slices"
	"strings"
	"testing"

	"lazaret/api"
	"lazaret/items"
	"lazaret/tree"
	"lazaret/urls"
)

func base(t *testing.T, s string) api.URL {
	t.Helper()
	u, e := urls.Parse(s, nil)
	if e != api.OK {
		t.Fatalf("%q: %d", s, e)
	}
	return u
}

func parse(t *testing.T, bytes string) api.Tree {
	t.Helper()
	tr, e := tree.Parse(bytes)
	if e != api.OK {
		t.Fatalf("%q: %d", bytes, e)
	}
	return tr
}

var names = [...]string{"none", "script", "inline", "handler", "java", "style", "sheet", "rule", "image", "font", "media", "frame", "object", "manifest", "connect", "base", "form"}

// show is an item as text: its kind, attribute, URL and text, and its nonce
// and integrity behind a ! and a #, if it has any.
func show(x api.Item) string {
	s := names[x.Kind] + " " + x.Attr + ":" + x.URL + x.Text
	if x.Nonce != "" {
		s += " !" + x.Nonce
	}
	if x.Integrity != "" {
		s += " #" + x.Integrity
	}
	return s
}

// all are the items of a document, in order, by https://a.b/d/e.
func all(t *testing.T, bytes string) []string {
	t.Helper()
	tr, u := parse(t, bytes), base(t, "https://a.b/d/e")
	var list []string
	for _, node := range items.Order(tr) {
		for _, x := range items.Of(tr, node, u) {
			if x.Node != node {
				t.Errorf("%q: %+v of node %d", bytes, x, node)
			}
			list = append(list, show(x))
		}
	}
	return list
}

func check(t *testing.T, bytes string, want ...string) {
	t.Helper()
	if got := all(t, bytes); !slices.Equal(got, want) {
		t.Errorf("%q: %q, want %q", bytes, got, want)
	}
}

// P30.1: Nonce.
func TestNonce(t *testing.T) {
	for _, x := range []struct {
		bytes, name, want string
	}{
		{"<script nonce=n>", "script", "n"}, {"<script nonce=n nonce=m>", "script", ""}, {"<script nonce=n a A>", "script", ""}, {"<script nonce=n x='<SCRIPT'>", "script", ""}, {"<script nonce=n x='a<style>'>", "script", ""}, {"<script nonce=n <script>", "script", ""}, {"<script nonce=n a<Style=1>", "script", ""}, {"<script nonce='<script'>", "script", ""}, {"<script nonce=n x='< script' y=script z='<scrip'>", "script", "n"}, {"<script>", "script", ""}, {"<script nonce=' N '>", "script", " N "},
		{"<style nonce=n x='<script'>", "style", "n"}, {"<style nonce=n x x>", "style", ""}, {"<p nonce=n x='<style'>", "p", "n"}, {"<svg><script nonce=n>", "script", "n"}, {"<svg><script nonce=n x='<script'>", "script", ""}, {"<link nonce=n>", "link", "n"}, {"<svg nonce=n>", "svg", "n"},
	} {
		tr := parse(t, x.bytes)
		for _, n := range tr.Nodes {
			if n.Name == x.name {
				if got := items.Nonce(n); got != x.want {
					t.Errorf("%q: %q", x.bytes, got)
				}
			}
		}
	}
	two := []api.Attr{{Name: "nonce", Value: "a"}, {Name: "nonce", Value: "b"}}
	if got := items.Nonce(api.Node{Kind: api.NoElement, Attrs: two}); got != "a" {
		t.Errorf("the first one: %q", got)
	}
	for _, kind := range []int{0, api.NoDocument, api.NoText, api.NoComment, api.NoContent, api.NoDoctype, 9} {
		if items.Nonce(api.Node{Kind: kind, Attrs: two}) != "" {
			t.Errorf("kind %d", kind)
		}
	}
}

// P30.2: style attributes, and handlers.
func TestAttributes(t *testing.T) {
	check(t, "<p onclick=1 style='' ONx=2 on on1 on-x on_y onéa once style2 Style=4 xonclick=3>", "handler onclick:1", "rule style:", "handler onx:2", "handler once:")
	check(t, "<math onclick=1 href=javascript:1 src=x style=2><mi style=3>", "handler onclick:1", "rule style:2", "rule style:3")
	check(t, "<svg onload=1 style=2>", "handler onload:1", "rule style:2")
	check(t, "<body onload=1><x-y style=2>", "handler onload:1", "rule style:2")
	check(t, "<img src=x onload=1>", "handler onload:1", "image src:https://a.b/d/x")
	check(t, "<p nonce=n onclick=1 integrity=i>", "handler onclick:1")
	check(t, "<template style=1><p style=2></template>", "rule style:1")
}

// P30.2: scripts.
func TestScripts(t *testing.T) {
	check(t, "<script nonce=n>y</script>", "inline :y !n")
	check(t, "<script nonce=n nonce=m>y</script>", "inline :y")
	check(t, "<script></script><script> </script>", "inline : ")
	check(t, "<script src=x nonce=n integrity=i>y</script>", "script src:https://a.b/d/x !n #i")
	check(t, "<script src>y</script><script src=''>y</script><script src=http://>y</script>")
	check(t, "<script href=x>y</script>", "inline :y")
	check(t, "<svg><script href=x nonce=n integrity=i>y</script><script src=x>z</script><script xlink:href=x>w", "script href:https://a.b/d/x !n #i", "inline :z", "inline :w")
	check(t, "<svg><script>a<g>b</g>c</script>", "inline :ac")
	check(t, "<svg><script>a<!--b-->c", "inline :ac")
	check(t, "<math><script>a</script>")
	check(t, "<script src=javascript:1></script>", "script src:javascript:1")
	runs := []string{"", " ", "module", "MODULE ", "importmap", "application/ecmascript", "application/javascript", "application/x-ecmascript", "application/x-javascript", "text/ecmascript", "text/javascript", "\ttext/JavaScript\n", "text/javascript1.0", "text/javascript1.1", "text/javascript1.2", "text/javascript1.3", "text/javascript1.4", "text/javascript1.5", "text/jscript", "text/livescript", "text/x-ecmascript", "text/x-javascript"}
	for _, kind := range runs {
		check(t, "<script type='"+kind+"'>y</script>", "inline :y")
		check(t, "<svg><script type='"+kind+"' href=x>", "script href:https://a.b/d/x")
	}
	for _, kind := range []string{"x", "text/javascript;", "text/javascript; charset=x", "text/javascript1.6", "text/javascript1", "json", "application/json", "text/plain", "speculationrules", "text/javascripta", "text / javascript", "modules", "text/html", "text/x-jscript"} {
		check(t, "<script type='"+kind+"'>y</script>")
		check(t, "<script type='"+kind+"' src=x onload=1></script>", "handler onload:1")
	}
}

// P30.2: style sheets.
func TestStyles(t *testing.T) {
	check(t, "<style nonce=n>a{}</style><style></style>", "sheet :a{} !n", "sheet :")
	check(t, "<style type=''>a</style><style type=TEXT/css>b</style><style type=' text/css'>c</style><style type=text/less>d</style><style type>e</style>", "sheet :a", "sheet :b", "sheet :e")
	check(t, "<svg><style nonce=n>a<g/>b</style><style type=x>c</style>", "sheet :ab !n")
	check(t, "<math><style>a</style>")
	check(t, "<style integrity=i src=x href=y>a</style>", "sheet :a")
}

// P30.2: other elements of SVG.
func TestSVG(t *testing.T) {
	check(t, "<svg><a href=javascript:1><image href=x nonce=n><feimage href=y><a href=z><image src=x><image href>", "java href:javascript:1", "image href:https://a.b/d/x !n", "image href:https://a.b/d/y")
	check(t, "<svg><feImage href=y integrity=i>", "image href:https://a.b/d/y #i")
	check(t, "<svg><link rel=icon href=x><input type=image src=x><video src=x><iframe src=x><object data=x><base href=x><form action=x><area href=javascript:1>")
	check(t, "<image src=x href=y><feimage href=y>", "image src:https://a.b/d/x")
}

// P30.2: links.
func TestLinks(t *testing.T) {
	const x = "href:https://a.b/d/x"
	check(t, "<link rel='STYLEsheet icon\tmanifest modulepreload x stylesheet' href=x nonce=n integrity=i>", "style "+x+" !n #i", "image "+x+" !n #i", "manifest "+x+" !n #i", "script "+x+" !n #i", "style "+x+" !n #i")
	for as, kind := range map[string]string{"script": "script", "STYLE": "style", "image": "image", "font": "font", "fetch": "connect", "audio": "media", "video": "media", "track": "media"} {
		check(t, "<link rel=Preload as="+as+" href=x>", kind+" "+x)
		check(t, "<link rel=x as="+as+" href=x>")
	}
	for _, as := range []string{"", "document", "' script'", "object", "worker", "stylesheet"} {
		check(t, "<link rel=preload as="+as+" href=x>")
	}
	check(t, "<link rel=preload href=x><link rel=stylesheet><link rel=stylesheet href=''><link href=x><link rel='' href=x><link rel='shortcut-icon canonical alternate' href=x><link rel=stylesheet src=x>")
}

// P30.2: images, inputs, buttons, forms.
func TestForms(t *testing.T) {
	check(t, "<img src=x nonce=n integrity=i srcset=y><img><img src=''><img href=x>", "image src:https://a.b/d/x !n #i")
	check(t, "<input type=IMAGE src=x formaction=y><input src=x formaction=y><input type=' image' src=x><input type=image formaction=javascript:1 src=x>", "image src:https://a.b/d/x", "form formaction:https://a.b/d/y", "form formaction:https://a.b/d/y", "image src:https://a.b/d/x", "java formaction:javascript:1", "form formaction:javascript:1")
	check(t, "<button formaction=x><button formaction=javascript:1 action=y><button action=x>", "form formaction:https://a.b/d/x", "java formaction:javascript:1", "form formaction:javascript:1")
	check(t, "<form action=x nonce=n></form><form action=' JAVAscript:1'></form><form action=''></form><form></form><form formaction=x>", "form action:https://a.b/d/x !n", "java action:javascript:1", "form action:javascript:1")
}

// P30.2: media, frames, objects, leads, bases.
func TestOthers(t *testing.T) {
	const a = "https://a.b/d/"
	check(t, "<video poster=p src=s><audio poster=p src=s><track poster=p src=s>", "image poster:"+a+"p", "media src:"+a+"s", "media src:"+a+"s", "media src:"+a+"s")
	check(t, "<video><source src=x></video><audio><source src=y></audio><picture><source src=z></picture><source src=w><video><p><source src=v>", "media src:"+a+"x", "media src:"+a+"y")
	check(t, "<iframe src=x></iframe><iframe src=javascript:2></iframe><iframe src=''></iframe><iframe></iframe><iframe srcdoc=x></iframe>", "frame src:"+a+"x", "java src:javascript:2")
	check(t, "<embed src=x><object data=y src=z></object><embed data=x><object src=x>", "object src:"+a+"x", "object data:"+a+"y")
	check(t, "<a href=' javascript:1'>", "java href:javascript:1")
	check(t, "<a href='java\nscript:a b'><area href=JavaScript:2?x#y>", "java href:javascript:a b", "java href:javascript:2?x#y")
	check(t, "<a href=x><a href=http:javascript:1><a src=javascript:1><a href=data:javascript:1><a href='&#x6a;avascript:1'><p href=javascript:1>", "java href:javascript:1")
	check(t, "<base href=x nonce=n><base href=''><base target=x><base href=http://>", "base href:"+a+"x !n")
	check(t, "<p src=x href=y data=z action=w poster=v><meta content=x><title src=x></title>")
}

// P30.2: frames, which no tree has, and nodes that are made by hand.
func TestByHand(t *testing.T) {
	u := base(t, "https://a.b/")
	src := []api.Attr{{Name: "src", Value: "x"}, {Name: "src", Value: "y"}}
	tr := api.Tree{Nodes: []api.Node{
		{Kind: api.NoElement, Name: "frame", Attrs: src, Parent: -1},
		{Kind: api.NoElement, Name: "img", Space: 7, Attrs: src, Parent: 9},
		{Kind: api.NoElement, Name: "source", Attrs: src, Parent: 9},
		{Kind: api.NoElement, Name: "script", Kids: []int{-1, 99, 4, 3, 5, 4}},
		{Kind: api.NoText, Text: "t"},
		{Kind: api.NoComment, Text: "c"},
		{Kind: api.NoElement, Name: "video", Space: api.SpSVG},
		{Kind: api.NoElement, Name: "source", Attrs: src, Parent: 6},
		{Kind: api.NoElement, Name: "video"},
		{Kind: api.NoElement, Name: "source", Space: -1, Attrs: src, Parent: 8},
		{Kind: api.NoText, Name: "img", Attrs: src},
		{Kind: api.NoDocument, Name: "img", Attrs: src},
		{Kind: api.NoText, Name: "video"},
		{Kind: api.NoElement, Name: "source", Attrs: src, Parent: 12},
		{Kind: api.NoElement, Name: "p", Attrs: []api.Attr{{Name: "ona", Value: "1"}, {Name: "ona", Value: "2"}}},
	}}
	for node, want := range [][]string{{"frame src:https://a.b/x"}, {"image src:https://a.b/x"}, nil, {"inline :tt"}, nil, nil, nil, nil, nil, {"media src:https://a.b/x"}, nil, nil, nil, nil, {"handler ona:1", "handler ona:2"}} {
		var got []string
		for _, x := range items.Of(tr, node, u) {
			got = append(got, show(x))
		}
		if !slices.Equal(got, want) {
			t.Errorf("node %d: %q, want %q", node, got, want)
		}
	}
	for _, node := range []int{-1, 15, 1 << 62, -1 << 62} {
		if items.Of(tr, node, u) != nil {
			t.Errorf("node %d", node)
		}
	}
	if items.Of(tr, 0, api.URL{}) != nil {
		t.Error("a base that is none")
	}
}

// P30.2: whole items.
func TestWhole(t *testing.T) {
	tr, u := parse(t, "<script src=x nonce=n integrity=i onload=h></script>"), base(t, "https://a.b/")
	want := []api.Item{{Kind: api.ItHandler, Node: 3, Attr: "onload", Text: "h"}, {Kind: api.ItScript, Node: 3, Attr: "src", URL: "https://a.b/x", Nonce: "n", Integrity: "i"}}
	if got := items.Of(tr, 3, u); !reflect.DeepEqual(got, want) {
		t.Errorf("%+v", got)
	}
	tr = parse(t, "<script nonce=n integrity=i>y</script>")
	if got := items.Of(tr, 3, u); !reflect.DeepEqual(got, []api.Item{{Kind: api.ItInline, Node: 3, Text: "y", Nonce: "n"}}) {
		t.Errorf("%+v", got)
	}
	tr = parse(t, "<a href=javascript:1 nonce=n integrity=i>")
	if got := items.Of(tr, 4, u); !reflect.DeepEqual(got, []api.Item{{Kind: api.ItJava, Node: 4, Attr: "href", Text: "javascript:1"}}) {
		t.Errorf("%+v", got)
	}
}

// P30.3: Order.
func TestOrder(t *testing.T) {
	kids := func(k ...int) api.Node { return api.Node{Kids: k} }
	for _, x := range []struct {
		nodes []api.Node
		want  []int
	}{
		{nil, nil}, {[]api.Node{kids()}, []int{0}}, {[]api.Node{kids(3, 1), kids(2), kids(), kids(4), kids()}, []int{0, 3, 4, 1, 2}}, {[]api.Node{kids(0, -1, 1, 9, 1), kids(0, 2), kids(1)}, []int{0, 1, 2}}, {[]api.Node{kids(2), kids(), kids(1, 2)}, []int{0, 2, 1}}, {[]api.Node{{Content: 1}, kids()}, []int{0}}, {[]api.Node{kids(), kids()}, []int{0}},
	} {
		if got := items.Order(api.Tree{Nodes: x.nodes}); !slices.Equal(got, x.want) {
			t.Errorf("%+v: %v", x.nodes, got)
		}
	}
	check(t, "<template><img src=x></template><p style=1><b style=2></b></p><i style=3>", "rule style:1", "rule style:2", "rule style:3")
	deep := make([]api.Node, 5000)
	for i := range deep {
		deep[i].Kids = []int{i + 1}
	}
	if got := items.Order(api.Tree{Nodes: deep}); len(got) != 5000 {
		t.Errorf("%d nodes", len(got))
	}
}

// P30.4: Policy.
func TestPolicy(t *testing.T) {
	const name = "content-security-policy"
	for bytes, want := range map[string]string{
		"<meta http-equiv=" + name + " content='a b'>": "a b true", "<meta http-equiv=Content-Security-POLICY content=a>": "a true", "<meta http-equiv=" + name + " content=''>": " false", "<meta http-equiv=" + name + ">": " false", "<meta content=a>": "a false", "<meta http-equiv=x content=a>": "a false", "<meta http-equiv=' " + name + "' content=a>": "a false", "<meta http-equiv=" + name + "-report-only content=a>": "a false",
		"<body><meta http-equiv=" + name + " content=a>": "a false", "<p><meta http-equiv=" + name + " content=a>": "a false", "<head></head><meta http-equiv=" + name + " content=a>": "a true", "<noscript><meta http-equiv=" + name + " content=a>": "a false", "<meta http-equiv=" + name + " content=' '>": "  true", "<meta name=" + name + " content=a>": "a false",
	} {
		tr := parse(t, bytes)
		for i, n := range tr.Nodes {
			content, ok := items.Policy(tr, i)
			got := fmt.Sprint(content, " ", ok)
			if n.Name == "meta" && got != want || n.Name != "meta" && got != " false" {
				t.Errorf("%q: node %d: %q", bytes, i, got)
			}
		}
	}
	meta := api.Node{Kind: api.NoElement, Name: "meta", Attrs: []api.Attr{{Name: "http-equiv", Value: name}, {Name: "content", Value: "a"}}, Parent: 0}
	tr := api.Tree{Nodes: []api.Node{{Kind: api.NoElement, Name: "head"}, meta, meta, meta, meta, {Kind: api.NoElement, Name: "head", Space: api.SpSVG}, {Kind: api.NoComment, Name: "head"}, meta}}
	tr.Nodes[2].Space, tr.Nodes[3].Parent, tr.Nodes[4].Parent, tr.Nodes[7].Parent = api.SpSVG, -1, 5, 6
	for i, want := range []string{" false", "a true", " false", "a false", "a false", " false", " false", "a false"} {
		content, ok := items.Policy(tr, i)
		if got := fmt.Sprint(content, " ", ok); got != want {
			t.Errorf("node %d: %q", i, got)
		}
	}
	for _, i := range []int{-1, 8, 1 << 62} {
		if content, ok := items.Policy(tr, i); content != "" || ok {
			t.Errorf("node %d", i)
		}
	}
	if strings.Join(all(t, "<a><b>"), "") != "" {
		t.Error("no items")
	}
}
