package heads_test

import (
	"reflect"
	"strings"
	"testing"

	"lazaret/api"
	"lazaret/builder"
	"lazaret/heads"
	"lazaret/tokens"
)

// feed does the tokens of a text, but its end, each as often as it is said.
func feed(b *builder.Builder, text string) {
	l := tokens.New(text)
	for {
		t := l.Next(false)
		if t.Kind == api.ToEOF {
			return
		}
		for heads.Step(b, t) {
		}
		if state, name, ok := b.Ask(); ok {
			l.Raw(state, name)
		}
	}
}

// fed is a new builder to which a text was fed.
func fed(text string) *builder.Builder {
	b := builder.New()
	feed(b, text)
	return b
}

// one is the only token of a text.
func one(text string) api.Token { return tokens.New(text).Next(false) }

// show is a node as text.
func show(b *builder.Builder, i int) string {
	n := b.Arena().Node(i)
	switch n.Kind {
	case api.NoText:
		return "'" + n.Text + "'"
	case api.NoComment:
		return "#" + n.Text
	case api.NoDoctype:
		return "!" + n.Name
	}
	kids := n.Kids
	if n.Content > 0 {
		kids = append([]int{n.Content}, kids...)
	}
	var texts []string
	for _, k := range kids {
		texts = append(texts, show(b, k))
	}
	return n.Name + "(" + strings.Join(texts, " ") + ")"
}

// open are the names of the open elements.
func open(b *builder.Builder) string {
	var names []string
	for k := range b.Stack().Len() {
		names = append(names, b.Arena().Node(b.Stack().At(k)).Name)
	}
	return strings.Join(names, " ")
}

// check feeds a text to a new builder, and holds its mode, what is open, and
// the tree against what they are to be.
func check(t *testing.T, text string, mode int, wantOpen, tree string) *builder.Builder {
	t.Helper()
	b := fed(text)
	if b.Mode() != mode || open(b) != wantOpen || show(b, 0) != tree {
		t.Errorf("%q: mode %d, open %q, %s; want %d, %q, %s", text, b.Mode(), open(b), show(b, 0), mode, wantOpen, tree)
	}
	return b
}

// P19.2: MoInitial.
func TestInitial(t *testing.T) {
	check(t, " \n", builder.MoInitial, "", "()")
	check(t, "<!--c-->", builder.MoInitial, "", "(#c)")
	for text, quirks := range map[string]bool{"<!doctype html>": false, "<!doctype HTML>": false, "<!doctype x>": true, "<!doctype html x>": true, "<!doctype>": true, "<!doctype html": true} {
		b := fed(text)
		if b.Mode() != builder.MoBeforeHTML || b.Quirks() != quirks {
			t.Errorf("%q: mode %d, quirks %v", text, b.Mode(), b.Quirks())
		}
	}
	b := check(t, "<!doctype x y>", builder.MoBeforeHTML, "", "(!x)")
	if got := b.Arena().Node(1); !reflect.DeepEqual(got, api.Node{Kind: api.NoDoctype, Name: "x", Parent: 0, From: -1, To: -1}) {
		t.Errorf("%+v", got)
	}
	for _, text := range []string{"x", "<p>", "</p>", "</html>", "<html>", "\x00"} {
		b := builder.New()
		if !heads.Step(b, one(text)) || b.Mode() != builder.MoBeforeHTML || !b.Quirks() || b.Arena().Len() != 1 {
			t.Errorf("%q: mode %d", text, b.Mode())
		}
	}
	b = builder.New()
	if !heads.Step(b, api.Token{Kind: api.ToEOF}) || b.Mode() != builder.MoBeforeHTML {
		t.Error("the end")
	}
}

// P19.2: MoBeforeHTML.
func TestBeforeHTML(t *testing.T) {
	const d = "<!doctype html>"
	check(t, d+"<!--c--> <!doctype x></p></x>", builder.MoBeforeHTML, "", "(!html #c)")
	b := check(t, d+"<html a=1>", builder.MoBeforeHead, "html", "(!html html())")
	if n := b.Arena().Node(2); len(n.Attrs) != 1 || n.From != 15 || b.Quirks() {
		t.Errorf("%+v", n)
	}
	for _, text := range []string{"x", "<p>", "</html>", "</head>", "</body>", "</br>", "\x00"} {
		b := fed(d)
		if !heads.Step(b, one(text)) || b.Mode() != builder.MoBeforeHead || open(b) != "html" || b.Current().From != -1 {
			t.Errorf("%q: mode %d, open %q", text, b.Mode(), open(b))
		}
	}
}

// P19.2: MoBeforeHead.
func TestBeforeHead(t *testing.T) {
	const d = "<html a=1>"
	b := check(t, d+"<!--c--> <!doctype x></p><html a=2 b=3>", builder.MoBeforeHead, "html", "(html(#c))")
	if got := b.Arena().Node(1).Attrs; !reflect.DeepEqual(got, []api.Attr{{Name: "a", Value: "1"}, {Name: "b", Value: "3"}}) || b.Head() != -1 {
		t.Errorf("%v", got)
	}
	b = check(t, d+"<head x>", builder.MoHead, "html head", "(html(head()))")
	if b.Head() != 2 || len(b.Current().Attrs) != 1 {
		t.Errorf("head %d", b.Head())
	}
	for _, text := range []string{"x", "<p>", "</html>", "</head>", "</body>", "</br>", "\x00"} {
		b := fed(d)
		if !heads.Step(b, one(text)) || b.Mode() != builder.MoHead || open(b) != "html head" || b.Head() != 2 || b.Current().From != -1 {
			t.Errorf("%q: mode %d, open %q", text, b.Mode(), open(b))
		}
	}
}

// P19.1: what a head has.
func TestHead(t *testing.T) {
	const d = "<html><head>"
	check(t, d+" <!--c--><!doctype x><head></p></x>", builder.MoHead, "html head", "(html(head(' ' #c)))")
	check(t, d+"<base><basefont><bgsound><link><meta>", builder.MoHead, "html head", "(html(head(base() basefont() bgsound() link() meta())))")
	for name, state := range map[string]int{"title": api.StRCData, "noframes": api.StRaw, "style": api.StRaw, "script": api.StScript} {
		b := fed(d)
		if heads.Step(b, one("<"+name+" a>")) || b.Mode() != builder.MoText || b.Back() != builder.MoHead || !b.Is(name) {
			t.Errorf("%s: mode %d", name, b.Mode())
		}
		if got, asked, ok := b.Ask(); got != state || asked != name || !ok {
			t.Errorf("%s: asked for %d of %q", name, got, asked)
		}
	}
	b := check(t, d+"<html x=1>", builder.MoHead, "html head", "(html(head()))")
	if len(b.Arena().Node(1).Attrs) != 1 {
		t.Error("html starts")
	}
	check(t, d+"<noscript>", builder.MoNoscript, "html head noscript", "(html(head(noscript())))")
	check(t, d+"</head>", builder.MoAfterHead, "html", "(html(head()))")
	if b = fed(d); heads.Step(b, one("</head>")) {
		t.Error("head ends: again")
	}
	for _, text := range []string{"x", "<p>", "</html>", "</body>", "</br>", "\x00", "<body>"} {
		b := fed(d)
		if !heads.Step(b, one(text)) || b.Mode() != builder.MoAfterHead || open(b) != "html" {
			t.Errorf("%q: mode %d, open %q", text, b.Mode(), open(b))
		}
	}
}

// P19.1: templates.
func TestTemplate(t *testing.T) {
	b := check(t, "<html><head><template a>", builder.MoTemplate, "html head template", "(html(head(template(()))))")
	if _, marker := b.Formats().At(0); b.Formats().Len() != 1 || !marker || !reflect.DeepEqual(b.Modes(), []int{builder.MoTemplate}) {
		t.Errorf("%d entries, modes %v", b.Formats().Len(), b.Modes())
	}
	b.Formats().Push(b.Imply("b"))
	b.Imply("td")
	b.Imply("p")
	b.Set(builder.MoBody)
	if heads.Head(b, one("</template>")) || open(b) != "html head" || b.Formats().Len() != 0 || len(b.Modes()) != 0 || b.Mode() != builder.MoHead {
		t.Errorf("open %q, %d entries, modes %v, mode %d", open(b), b.Formats().Len(), b.Modes(), b.Mode())
	}
	b = check(t, "<html><head></template>", builder.MoHead, "html head", "(html(head()))")
	b.Formats().Push(b.Only(one("<b>")))
	b.Push(builder.MoRow)
	if heads.Head(b, one("</template>")); b.Formats().Len() != 1 || len(b.Modes()) != 1 || b.Mode() != builder.MoHead {
		t.Error("no template is open")
	}
	b = fed("<html><head><template>")
	heads.Head(b, one("<template>"))
	heads.Head(b, one("</template>"))
	if open(b) != "html head template" || b.Mode() != builder.MoTemplate || len(b.Modes()) != 1 {
		t.Errorf("within another one: open %q, mode %d", open(b), b.Mode())
	}
}

// P19.1: a marker too many, and an element too many.
func TestTooMany(t *testing.T) {
	b := fed("<html><head>")
	for range api.MaxFormats {
		b.Formats().Mark()
	}
	if heads.Head(b, one("<template>")); b.Err() != api.ErrLong {
		t.Errorf("markers: %d", b.Err())
	}
	b = fed("<html><head>")
	for b.Stack().Len() < api.MaxDepth {
		b.Imply("p")
	}
	if heads.Head(b, one("<meta>")); b.Err() != api.ErrDepth {
		t.Errorf("elements: %d", b.Err())
	}
}

// P19.2: MoNoscript.
func TestNoscript(t *testing.T) {
	const d = "<html><head><noscript>"
	const o, mode = "html head noscript", builder.MoNoscript
	check(t, d+" <!--c--><!doctype x><head><noscript></p></head></html></template>", mode, o, "(html(head(noscript(' ' #c))))")
	check(t, d+"<basefont><bgsound><link><meta>", mode, o, "(html(head(noscript(basefont() bgsound() link() meta()))))")
	check(t, d+"<style>x</style><noframes>y</noframes><html z>", mode, o, "(html(head(noscript(style('x') noframes('y')))))")
	check(t, d+"</noscript>", builder.MoHead, "html head", "(html(head(noscript())))")
	if b := fed(d); heads.Step(b, one("</noscript>")) {
		t.Error("noscript ends: again")
	}
	for _, text := range []string{"x", "<p>", "</br>", "<base>", "<script>", "<title>", "<template>", "\x00", "<body>"} {
		b := fed(d)
		if !heads.Step(b, one(text)) || b.Mode() != builder.MoHead || open(b) != "html head" {
			t.Errorf("%q: mode %d, open %q", text, b.Mode(), open(b))
		}
	}
}

// P19.2: MoAfterHead.
func TestAfterHead(t *testing.T) {
	const d = "<html><head></head>"
	const mode = builder.MoAfterHead
	check(t, d+" <!--c--><!doctype x><head><frameset></p></head></x><html y=1>", mode, "html", "(html(head() ' ' #c))")
	check(t, d+"<body a>", builder.MoBody, "html body", "(html(head() body()))")
	if n := fed(d + "<html y=1>").Arena().Node(1); len(n.Attrs) != 1 {
		t.Errorf("html starts: %+v", n)
	}
	if b := fed(d); heads.Step(b, one("<body a>")) || len(b.Current().Attrs) != 1 || b.Current().From != 0 {
		t.Errorf("body starts: %+v", b.Current())
	}
	check(t, d+"<meta><base><title>x</title><script>y</script>", mode, "html", "(html(head(meta() base() title('x') script('y'))))")
	b := check(t, d+"<template>", builder.MoTemplate, "html template", "(html(head(template(()))))")
	if heads.Head(b, one("</template>")); b.Mode() != mode || open(b) != "html" {
		t.Errorf("mode %d, open %q", b.Mode(), open(b))
	}
	check(t, d+"</template>", mode, "html", "(html(head()))")
	for _, text := range []string{"x", "<p>", "</html>", "</body>", "</br>", "\x00", "<noscript>"} {
		b := fed(d)
		if !heads.Step(b, one(text)) || b.Mode() != builder.MoBody || open(b) != "html body" || b.Current().From != -1 {
			t.Errorf("%q: mode %d, open %q", text, b.Mode(), open(b))
		}
	}
}

// P19.2: MoText.
func TestText(t *testing.T) {
	check(t, "<title>a \n&lt;</title >", builder.MoHead, "html head", "(html(head(title('a \n<'))))")
	check(t, "<script>a</b><!--</script>", builder.MoHead, "html head", "(html(head(script('a</b><!--'))))")
	b := fed("<title>")
	if !heads.Step(b, api.Token{Kind: api.ToEOF}) || b.Mode() != builder.MoHead || open(b) != "html head" {
		t.Errorf("the end: mode %d, open %q", b.Mode(), open(b))
	}
	b = fed("<title>")
	if heads.Step(b, api.Token{Kind: api.ToNul, Text: "\x00"}) || show(b, 0) != "(html(head(title('\x00'))))" {
		t.Errorf("characters 0: %s", show(b, 0))
	}
	if heads.Step(b, api.Token{Kind: api.ToEnd, Name: "x"}) || b.Mode() != builder.MoHead {
		t.Errorf("an end tag: mode %d", b.Mode())
	}
}

// P19.2: other modes.
func TestOtherModes(t *testing.T) {
	for _, mode := range []int{builder.MoBody, builder.MoTable, builder.MoTableText, builder.MoCell, builder.MoTemplate, builder.MoAfterBody, builder.MoAfterAfter, -1, 18, 1 << 62, -1 << 62} {
		for _, text := range []string{"x", " ", "<p>", "</p>", "<!--c-->", "<meta>"} {
			b := fed("<html><head>")
			b.Set(mode)
			if heads.Step(b, one(text)) || b.Arena().Len() != 3 || b.Mode() != mode {
				t.Errorf("mode %d: %q", mode, text)
			}
		}
	}
}

// Belongs.
func TestBelongs(t *testing.T) {
	for _, name := range []string{"base", "basefont", "bgsound", "link", "meta", "noframes", "script", "style", "template", "title"} {
		if !heads.Belongs(one("<" + name + ">")) {
			t.Errorf("%s starts", name)
		}
		if heads.Belongs(one("</"+name+">")) != (name == "template") {
			t.Errorf("%s ends", name)
		}
	}
	for _, text := range []string{"<head>", "<noscript>", "<p>", "x", "<!--script-->", "<!doctype script>", "</p>", "<noembed>", "<body>"} {
		if heads.Belongs(one(text)) {
			t.Errorf("%q", text)
		}
	}
	if heads.Belongs(api.Token{Name: "script"}) || heads.Belongs(api.Token{Kind: api.ToStart, Name: "SCRIPT"}) {
		t.Error("no tag")
	}
}

// P19.3: Over.
func TestOver(t *testing.T) {
	b := fed("<html><head>")
	b.Formats().Mark()
	if heads.Over(b) || b.Formats().Len() != 1 || b.Mode() != builder.MoHead {
		t.Error("no template is open")
	}
	b = fed("<html><head><template>")
	b.Formats().Push(b.Imply("b"))
	heads.Head(b, one("<template>"))
	b.Imply("div")
	if !heads.Over(b) || open(b) != "html head template b" || b.Formats().Len() != 2 || len(b.Modes()) != 1 || b.Mode() != builder.MoTemplate {
		t.Errorf("open %q, %d entries, modes %v, mode %d", open(b), b.Formats().Len(), b.Modes(), b.Mode())
	}
	if !heads.Over(b) || open(b) != "html head" || b.Formats().Len() != 0 || len(b.Modes()) != 0 || b.Mode() != builder.MoHead {
		t.Errorf("open %q, mode %d", open(b), b.Mode())
	}
	b = fed("<html><head>")
	b.Insert(one("<template>"), api.SpSVG)
	if heads.Over(b) {
		t.Error("a template of SVG")
	}
}

// The examples.
func TestExamples(t *testing.T) {
	b := builder.New()
	end := api.Token{Kind: api.ToEOF}
	for range 5 {
		if !heads.Step(b, end) {
			t.Fatalf("mode %d: not again", b.Mode())
		}
	}
	if b.Mode() != builder.MoBody || !b.Quirks() || show(b, 0) != "(html(head() body()))" || heads.Step(b, end) {
		t.Errorf("mode %d, %s", b.Mode(), show(b, 0))
	}
	check(t, "<!doctype html><!--c--><html><title>", builder.MoText, "html head title", "(!html #c html(head(title())))")
}

// What is done with builders that are none.
func TestNone(t *testing.T) {
	for _, b := range []*builder.Builder{nil, {}} {
		if heads.Step(b, one("<p>")) || heads.Head(b, one("<p>")) || heads.Over(b) {
			t.Error("true")
		}
	}
}
