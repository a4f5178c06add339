package tree_test

import (
	"math/rand"
	"reflect"
	"strings"
	"testing"

	"lazaret/api"
	"lazaret/builder"
	"lazaret/tokens"
	"lazaret/tree"
)

// parse is the tree of bytes that are to have one.
func parse(t *testing.T, bytes string) api.Tree {
	t.Helper()
	tr, e := tree.Parse(bytes)
	if e != api.OK {
		t.Fatalf("%q: %d", bytes, e)
	}
	return tr
}

// short is a tree on one line: elements with what they have in brackets.
func short(t api.Tree, i int) string {
	n := t.Nodes[i]
	var kids []string
	if n.Content > 0 {
		kids = append(kids, short(t, n.Content))
	}
	for _, k := range n.Kids {
		kids = append(kids, short(t, k))
	}
	in := strings.Join(kids, " ")
	switch n.Kind {
	case api.NoText:
		return n.Text
	case api.NoComment:
		return "#" + n.Text
	case api.NoDoctype:
		return "!" + n.Name
	case api.NoDocument:
		return in
	case api.NoContent:
		return "{" + in + "}"
	}
	name := map[int]string{api.SpSVG: "s:", api.SpMath: "m:"}[n.Space] + n.Name
	if in != "" {
		name += "(" + in + ")"
	}
	return name
}

// check holds the tree of bytes against what it is to be.
func check(t *testing.T, bytes, want string) {
	t.Helper()
	if got := short(parse(t, bytes), 0); got != want {
		t.Errorf("%q:\n%s\n%s", bytes, got, want)
	}
}

// P23.2: documents as a whole.
func TestDocuments(t *testing.T) {
	for bytes, want := range map[string]string{
		"": "html(head body)", " \n": "html(head body)", "<!doctype html>": "!html html(head body)", "x": "html(head body(x))", "<!--c-->": "#c html(head body)", "<html>": "html(head body)", "<head>": "html(head body)", "<body>": "html(head body)",
		"<!doctype html><title>x&amp;y</title>": "!html html(head(title(x&y)) body)", "<title>x": "html(head(title(x)) body)", "<title></title> x": "html(head(title  ) body(x))", "</p>": "html(head body)", "</br>": "html(head body(br))", "</x>y": "html(head body(y))",
		" <!--a--> <html> <!--b--> <head> <!--c--> </head> <!--d--> <body> <!--e--> </body> <!--f--> </html> <!--g-->": "#a html(#b head(  #c  )   #d   body(  #e     ) #f) #g",
		"<script>x</script><p>":                         "html(head(script(x)) body(p))",
		"<p><script>x</script>":                         "html(head body(p(script(x))))",
		"<head></head><meta><p>":                        "html(head(meta) body(p))",
		"<noscript><meta></noscript><p>":                "html(head(noscript(meta)) body(p))",
		"<noscript><p>x</noscript>":                     "html(head(noscript) body(p(x)))",
		"<head></head><style>x</style> y":               "html(head(style(x))   body(y))",
		"</body></html><p>x":                            "html(head body(p(x)))",
		"a</body>b":                                     "html(head body(ab))",
		"a</html>b<!--c-->":                             "html(head body(ab #c))",
		"\xef\xbb\xbf<p>":                               "html(head body(p))",
		"a\r\nb\rc\x00d\xffe":                           "html(head body(a\nb\ncd\ufffde))",
		"<!doctype x><!doctype y>":                      "!x html(head body)",
		"<frameset><frame>x":                            "html(head body(x))",
		"<p title='<b>":                                 "html(head body)",
		"x<p":                                           "html(head body(x))",
		"<html a=1><head><html a=2 b=3>":                "html(head body)",
		"<template>a<b>c</template>d":                   "html(head(template({a b(c)})) body(d))",
		"<template><tr><td>a</template>":                "html(head(template({tr(td(a))})) body)",
		"<template><template>a":                         "html(head(template({template({a})})) body)",
		"<template><p>a<div>b":                          "html(head(template({p(a) div(b)})) body)",
		"<head><template></head><p>a</template>b":       "html(head(template({p(a)})) body(b))",
		"<plaintext><b></plaintext>":                    "html(head body(plaintext(<b></plaintext>)))",
		"<script><!--<script></script></script>x":       "html(head(script(<!--<script></script>)) body(x))",
		"<!doctype html><p><table>":                     "!html html(head body(p table))",
		"<p><table>":                                    "html(head body(p(table)))",
		"<svg><title><b>x</b></title></svg>y":           "html(head body(s:svg(s:title(b(x))) y))",
		"<svg><![CDATA[a<b>]]></svg><![CDATA[c]]>":      "html(head body(s:svg(a<b>) #[CDATA[c]]))",
		"<svg><desc><![CDATA[a]]></desc>":               "html(head body(s:svg(s:desc(a))))",
		"<svg><desc><p><![CDATA[a]]>":                   "html(head body(s:svg(s:desc(p(#[CDATA[a]])))))",
		"<math><mi><svg><g/></mi>x</math>":              "html(head body(m:math(m:mi(s:svg(s:g)) x)))",
		"<svg><p>x":                                     "html(head body(s:svg p(x)))",
		"<svg><script>x<b></script>y":                   "html(head body(s:svg(s:script(x)) b(y)))",
		"<svg></p><svg></br>":                           "html(head body(s:svg p s:svg br))",
		"<svg><g></svg>x":                               "html(head body(s:svg(s:g) x))",
		"<svg>\x00</svg>":                               "html(head body(s:svg(\ufffd)))",
		"<math><annotation-xml><svg>x":                  "html(head body(m:math(m:annotation-xml(s:svg(x)))))",
		"<math><annotation-xml encoding=text/html><p>x": "html(head body(m:math(m:annotation-xml(p(x)))))",
		"<math><annotation-xml><p>x":                    "html(head body(m:math(m:annotation-xml) p(x)))",
		"<table><svg><td>x":                             "html(head body(s:svg(s:td(x)) table))",
		"<table><tr><svg><td>x</svg>y":                  "html(head body(s:svg(s:td(x)) y table(tbody(tr))))",
	} {
		check(t, bytes, want)
	}
}

// P23.2: bodies of documents, as browsers build them.
func TestBodies(t *testing.T) {
	for bytes, want := range map[string]string{
		"<p>a<p>b": "p(a) p(b)", "<b>1<p>2</b>3": "b(1) p(b(2) 3)", "<a>1<a>2": "a(1) a(2)", "<b>1<i>2</b>3</i>4": "b(1 i(2)) i(3) 4", "<p>1<b>2</p>3": "p(1 b(2)) b(3)", "<b><b><b><b>1</b></b></b></b>2": "b(b(b(b(1)))) 2",
		"<b><p>1<i>2</b>3</i>4": "b p(b(1 i(2)) i(3) 4)", "<a><div><div>1</a>2": "a div(a div(a(1) 2))", "<li>1<li>2<ul><li>3</ul>4": "li(1) li(2 ul(li(3)) 4)", "<pre>\n\nx</pre>": "pre(\nx)", "<pre>\n</pre>": "pre", "<pre>&#10;x": "pre(x)", "<pre> \n": "pre( \n)", "<pre><b>\n": "pre(b(\n))", "<textarea>\nx\n</textarea>": "textarea(x\n)",
		"<table>a<tr>b<td>c</table>d": "ab table(tbody(tr(td(c)))) d", "<table><b>x<tr><td>y": "b(x) table(tbody(tr(td(y))))", "<table><tr><td><p>x</table>y": "table(tbody(tr(td(p(x))))) y", "<b><table>x": "b(x table)", "<table><a>1<tr><td>2</a>": "a(1) table(tbody(tr(td(2))))", "<table><caption>1<td>2": "table(caption(1) tbody(tr(td(2))))", "<table><col>1": "1 table(colgroup(col))", "<table><colgroup> x": "x table(colgroup( ))",
		"<select><option>1<option>2<optgroup>3</select>4": "select(option(1) option(2) optgroup(3)) 4", "<ruby>1<rt>2<rp>3</ruby>": "ruby(1 rt(2) rp(3))", "<button>1<button>2": "button(1) button(2)", "<form>1<form>2</form>3": "form(12) 3", "<h1>1<h2>2</h3>3": "h1(1) h2(2) 3", "<dl><dt>1<dd>2</dl>": "dl(dt(1) dd(2))", "<object><b>1</object>2": "object(b(1)) 2", "<nobr>1<nobr>2": "nobr(1) nobr(2)", "a<!--b-->c": "a #b c", "<image>": "img", "<x-y>1</x-y>2": "x-y(1) 2",
		"<p>1<svg><desc><p>2": "p(1 s:svg(s:desc(p(2))))", "<iframe><b></iframe>1": "iframe(<b>) 1", "<xmp>&lt;</xmp>": "xmp(&lt;)", "<div><p>1</div>2": "div(p(1)) 2", "<font color=x><p>1</font>2": "font p(font(1) 2)",
	} {
		check(t, "<body>"+bytes, "html(head body("+want+"))")
	}
}

// P23.2: quirks.
func TestQuirks(t *testing.T) {
	for bytes, want := range map[string]bool{"": true, "<p>": true, "<!doctype html>": false, "<!DOCTYPE HTML >x": false, "<!doctype html x>": true, "<!doctype x>": true, "<!doctype": true, "x<!doctype html>": true} {
		if got := parse(t, bytes); got.Quirks != want {
			t.Errorf("%q: %v", bytes, got.Quirks)
		}
	}
}

// P23.2: nodes, whole.
func TestNodes(t *testing.T) {
	got := parse(t, "<!doctype html><p a=1 A=2>x<!--c-->").Nodes
	want := []api.Node{
		{Kind: api.NoDocument, Parent: -1, Kids: []int{1, 2}, From: -1, To: -1},
		{Kind: api.NoDoctype, Name: "html", Parent: 0, From: -1, To: -1},
		{Kind: api.NoElement, Name: "html", Parent: 0, Kids: []int{3, 4}, From: -1, To: -1},
		{Kind: api.NoElement, Name: "head", Parent: 2, From: -1, To: -1},
		{Kind: api.NoElement, Name: "body", Parent: 2, Kids: []int{5}, From: -1, To: -1},
		{Kind: api.NoElement, Name: "p", Attrs: []api.Attr{{Name: "a", Value: "1"}}, Dup: true, Parent: 4, Kids: []int{6, 7}, From: 15, To: 26},
		{Kind: api.NoText, Text: "x", Parent: 5, From: -1, To: -1},
		{Kind: api.NoComment, Text: "c", Parent: 5, From: -1, To: -1},
	}
	if len(got) != len(want) {
		t.Fatalf("%d nodes", len(got))
	}
	for i := range want {
		if !reflect.DeepEqual(got[i], want[i]) {
			t.Errorf("node %d: %+v, want %+v", i, got[i], want[i])
		}
	}
}

// P23.2: limits.
func TestLimits(t *testing.T) {
	for _, x := range []struct {
		bytes string
		want  api.Errno
	}{
		{strings.Repeat("x", api.MaxBytes), api.OK}, {strings.Repeat("x", api.MaxBytes+1), api.ErrLong}, {strings.Repeat("\r\n", api.MaxBytes/2+1), api.ErrLong}, {strings.Repeat("\xff", api.MaxBytes), api.OK},
		{strings.Repeat("<div>", 510), api.OK}, {strings.Repeat("<div>", 511), api.ErrDepth}, {strings.Repeat("<div>", 510) + "<br>", api.ErrDepth}, {strings.Repeat("<div>", 509) + "<br>", api.OK}, {strings.Repeat("<template>", 64), api.OK}, {strings.Repeat("<template>", 65), api.ErrLong}, {strings.Repeat("<div>", 511) + strings.Repeat("<object>", 65), api.ErrDepth}, {strings.Repeat("<object>", 65) + strings.Repeat("<div>", 511), api.ErrLong},
	} {
		tr, e := tree.Parse(x.bytes)
		steps, e2 := tree.Steps(x.bytes)
		if e != x.want || e2 != x.want || (e != api.OK) != (len(tr.Nodes) == 0) || (e != api.OK) != (steps == 0) || e != api.OK && tr.Quirks {
			t.Errorf("%d bytes: %d, %d, want %d", len(x.bytes), e, e2, x.want)
		}
	}
}

// P23.2: Text.
func TestText(t *testing.T) {
	for bytes, want := range map[string]string{"": "", "\xef\xbb\xbfa\r\nb\rc\xff\x00": "a\nb\nc\ufffd\x00", "\xef\xbb\xbf\xef\xbb\xbf": "\ufeff", "\xed\xa0\x80": "\ufffd\ufffd\ufffd", "é\n": "é\n"} {
		if got := tree.Text(bytes); got != want {
			t.Errorf("Text(%q) = %q", bytes, got)
		}
	}
	if long := strings.Repeat("\r", api.MaxBytes+1); tree.Text(long) != strings.Repeat("\n", api.MaxBytes+1) {
		t.Error("a long text")
	}
}

// P23.2: how often rules are asked.
func TestSteps(t *testing.T) {
	for bytes, want := range map[string]int{"": 6, "<!doctype html>": 6, "<html>": 6, "<html><head></head><body>": 6, "<body>x": 7, "<pre>\n": 7, "<svg><p>": 9, "<title>x": 9} {
		if got, e := tree.Steps(bytes); got != want || e != api.OK {
			t.Errorf("Steps(%q) = %d, %d; want %d", bytes, got, e, want)
		}
	}
}

// one is the only token of a text.
func one(text string) api.Token { return tokens.New(text).Next(false) }

// P23.1: Do.
func TestDo(t *testing.T) {
	b := builder.New()
	for _, x := range []struct {
		text string
		want int
		mode int
	}{
		{" ", 1, builder.MoInitial}, {"<!doctype html>", 1, builder.MoBeforeHTML}, {"<title>", 3, builder.MoText}, {"x", 1, builder.MoText}, {"</title>", 1, builder.MoHead}, {"x", 3, builder.MoBody}, {"<table>", 1, builder.MoTable}, {"<td>", 3, builder.MoCell}, {"</table>", 4, builder.MoBody}, {"</html>", 2, builder.MoAfterAfter}, {"y", 2, builder.MoBody}, {"<svg>", 1, builder.MoBody}, {"<svg>", 1, builder.MoBody}, {"<p>", 2, builder.MoBody},
	} {
		if got := tree.Do(b, one(x.text)); got != x.want || b.Mode() != x.mode {
			t.Errorf("%q: %d, mode %d; want %d, %d", x.text, got, b.Mode(), x.want, x.mode)
		}
	}
	b = builder.New()
	b.Imply("html")
	b.Imply("p")
	b.Insert(one("<svg>"), api.SpSVG)
	b.Set(builder.MoBody)
	if got := tree.Do(b, one("</p>")); got != 2 || b.Stack().Len() != 1 {
		t.Errorf("p ends in svg: %d, %d open", got, b.Stack().Len())
	}
	b = builder.New()
	b.Imply("html")
	b.Imply("body")
	b.Imply("div")
	b.Insert(one("<svg>"), api.SpSVG)
	b.Set(builder.MoBody)
	if got := tree.Do(b, one("</div>")); got != 1 || b.Stack().Len() != 2 {
		t.Errorf("div ends in svg: %d, %d open", got, b.Stack().Len())
	}
}

// P23.1: a line feed that is left out.
func TestSkips(t *testing.T) {
	for _, x := range []struct {
		token api.Token
		want  int
		text  string
	}{
		{one("\n"), 0, ""}, {one("\n\n"), 1, "\n"}, {one(" \n"), 1, " \n"}, {one("x"), 1, "x"}, {api.Token{Kind: api.ToChars, Text: "\nx"}, 1, "\nx"}, {one("\n  "), 1, "  "},
	} {
		b := builder.New()
		b.Imply("html")
		b.Imply("body")
		b.Set(builder.MoBody)
		b.Skip()
		got := tree.Do(b, x.token)
		tr := api.Tree{Nodes: b.Arena().Tree()}
		if want := strings.ReplaceAll("html(body("+x.text+"))", "()", ""); got != x.want || short(tr, 0) != want || b.Skips() {
			t.Errorf("%q: %d, %q", x.token.Text, got, short(tr, 0))
		}
	}
}

// P23.1: it ends where an error is, at builders that are none, and whatever
// they were set to.
func TestDoEnds(t *testing.T) {
	for _, b := range []*builder.Builder{nil, {}} {
		if tree.Do(b, one("<p>")) != 0 {
			t.Error("none")
		}
	}
	b := builder.New()
	for range api.MaxDepth {
		b.Imply("p")
	}
	if got := tree.Do(b, one("x")); b.Err() != api.ErrDepth || got > 3 {
		t.Errorf("%d, %d", got, b.Err())
	}
	b = builder.New()
	b.Fail(api.ErrLong)
	if tree.Do(b, one("<p>")); b.Arena().Len() != 1 {
		t.Error("an error is kept already")
	}
	for mode := -1; mode <= 18; mode++ {
		for back := -1; back <= 18; back++ {
			for _, tok := range []api.Token{one("x"), one("<p>"), one("</html>"), one("<td>"), {Kind: api.ToEOF}, {}, {Kind: 99}} {
				b := builder.New()
				b.Set(back)
				b.Keep()
				b.Set(mode)
				b.Push(back)
				tree.Do(b, tok)
			}
		}
	}
}

// P23.3: Show.
func TestShow(t *testing.T) {
	for bytes, want := range map[string]string{
		"":                            "#document\n html\n  head\n  body\n",
		"<!doctype html><!--c-->":     "#document\n !html\n #c\n html\n  head\n  body\n",
		"<p a=1 b>x<svg x=y><math>":   "#document\n html\n  head\n  body\n   p a=1 b=\n    \"x\"\n    svg svg x=y\n     svg math\n",
		"<math><template>":            "#document\n html\n  head\n  body\n   math math\n    math template\n",
		"<template>x</template>":      "#document\n html\n  head\n   template\n    #content\n     \"x\"\n  body\n",
		"<title>x&amp;y</title>\"\n'": "#document\n html\n  head\n   title\n    \"x&y\"\n  body\n   \"\"\n'\"\n",
	} {
		if got := tree.Show(parse(t, bytes)); got != want {
			t.Errorf("%q: %q, want %q", bytes, got, want)
		}
	}
}

// P23.3: trees that are made by hand.
func TestShowOthers(t *testing.T) {
	for _, x := range []struct {
		nodes []api.Node
		want  string
	}{
		{nil, ""},
		{[]api.Node{{Name: "x", Kids: []int{0, 1, -1, 7, 1}, Content: 1}, {Kind: 99, Space: 7, Kids: []int{0}}}, "x\n \n"},
		{[]api.Node{{Kind: api.NoDocument, Kids: []int{1, 2}, Content: -4}, {Kind: api.NoText, Text: "a", Kids: []int{2}}, {Kind: api.NoComment, Text: "b"}}, "#document\n \"a\"\n  #b\n"},
		{[]api.Node{{Kind: api.NoElement, Name: "t", Content: 2, Kids: []int{1}}, {Kind: api.NoDoctype, Name: "d"}, {Kind: api.NoContent}}, "t\n #content\n !d\n"},
		{[]api.Node{{Kind: api.NoElement, Name: "t", Content: 9}, {Kind: api.NoText}}, "t\n"},
		{[]api.Node{{Kind: api.NoContent, Space: api.SpSVG, Attrs: []api.Attr{{Name: "a"}}}}, "#content\n"},
		{[]api.Node{{Space: api.SpSVG, Name: "a", Attrs: []api.Attr{{Name: "b", Value: "c d"}, {Name: "b"}}}}, "svg a b=c d b=\n"},
	} {
		if got := tree.Show(api.Tree{Nodes: x.nodes}); got != x.want {
			t.Errorf("%+v: %q, want %q", x.nodes, got, x.want)
		}
	}
	deep := make([]api.Node, 5000)
	for i := range deep {
		deep[i].Kids = []int{i + 1}
	}
	if got := strings.Count(tree.Show(api.Tree{Nodes: deep}), "\n"); got != 5000 {
		t.Errorf("%d lines", got)
	}
}

// bounds holds a document against P23.4.
func bounds(t *testing.T, bytes string) {
	t.Helper()
	tr, e := tree.Parse(bytes)
	if e != api.OK {
		if e != api.ErrLong && e != api.ErrDepth {
			t.Fatalf("%q: %d", bytes, e)
		}
		return
	}
	steps, _ := tree.Steps(bytes)
	if n := len(bytes); len(tr.Nodes) > 200*n+20 || steps > 600*n+600 {
		t.Fatalf("%q: %d nodes, %d steps", bytes, len(tr.Nodes), steps)
	}
	var elements []int
	for _, k := range tr.Nodes[0].Kids {
		if tr.Nodes[k].Kind == api.NoElement {
			elements = append(elements, k)
		}
	}
	if len(elements) != 1 || tr.Nodes[elements[0]].Name != "html" {
		t.Fatalf("%q: %v", bytes, elements)
	}
	var parts []string
	for _, k := range tr.Nodes[elements[0]].Kids {
		if tr.Nodes[k].Kind == api.NoElement {
			parts = append(parts, tr.Nodes[k].Name)
		}
	}
	if len(parts) < 2 || parts[0] != "head" || parts[1] != "body" {
		t.Fatalf("%q: %v", bytes, parts)
	}
	for i, n := range tr.Nodes {
		if n.Parent < 0 {
			continue
		}
		times := 0
		for _, k := range tr.Nodes[n.Parent].Kids {
			if k == i {
				times++
			}
		}
		if times != 1 {
			t.Fatalf("%q: node %d is %d times among the kids of %d", bytes, i, times, n.Parent)
		}
	}
}

// P23.4, P0.8: whatever the bytes are.
func TestBounds(t *testing.T) {
	r := rand.New(rand.NewSource(23))
	pieces := strings.Fields("<html> <head> <body> <p> </p> <b> </b> <i> <i> </i> <a> </a> <a> <div> </div> <table> </table> <tr> </tr> <td> </td> <tbody> <caption> <col> <colgroup> <template> </template> <svg> </svg> <math> <mi> <desc> <title> </title> <script> </script> <style> <select> <option> <button> <form> </form> <li> <dd> <h1> </h1> <pre> <textarea> <object> </object> <nobr> <plaintext> <frameset> </body> </html> </br> x &amp; <!--c--> <!doctype> <br> <hr> <input> <image> <ruby> <rt> <noscript> <meta> <base> <applet> <g/> <![CDATA[y]]> \x00 <")
	for range 3000 {
		bytes := ""
		for range r.Intn(25) {
			bytes += pieces[r.Intn(len(pieces))]
			if r.Intn(6) == 0 {
				bytes += " "
			}
		}
		bounds(t, bytes)
	}
	for _, bytes := range []string{
		strings.Repeat("<b a><b b><b c><i d><i e><i f><u g><u h>", 8) + strings.Repeat("<p>", 400), strings.Repeat("<a><div>", 200), strings.Repeat("<b><p></b>", 1500), strings.Repeat("<table><a>", 300), strings.Repeat("<template>", 60) + "x", strings.Repeat("<svg><g>", 120) + "<p>", strings.Repeat("<p></b>", 1000), strings.Repeat("x ", 5000), strings.Repeat("<table><tr><td>", 120),
	} {
		bounds(t, bytes)
	}
}
