package foreign_test

import (
	"strings"
	"testing"

	"lazaret/api"
	"lazaret/builder"
	"lazaret/foreign"
	"lazaret/tokens"
)

// fresh is a builder with html and body, 1 and 2, and other elements open, of
// the spaces that svg, math and html begin, or a name with a colon.
func fresh(names string) *builder.Builder {
	b := builder.New()
	b.Imply("html")
	b.Imply("body")
	space := api.SpHTML
	for _, name := range strings.Fields(names) {
		switch name {
		case "svg":
			space = api.SpSVG
		case "math":
			space = api.SpMath
		}
		if html, ok := strings.CutPrefix(name, "html:"); ok {
			b.Imply(html)
			continue
		}
		b.Insert(one("<"+name+">"), space)
	}
	return b
}

// one is the only token of a text.
func one(text string) api.Token { return tokens.New(text).Next(false) }

// open are the names of the open elements behind html and body.
func open(b *builder.Builder) string {
	var names []string
	for k := 2; k < b.Stack().Len(); k++ {
		names = append(names, b.Arena().Node(b.Stack().At(k)).Name)
	}
	return strings.Join(names, " ")
}

// kids are the texts of what a node has, or names.
func kids(b *builder.Builder, i int) string {
	var texts []string
	for _, k := range b.Arena().Node(i).Kids {
		n := b.Arena().Node(k)
		texts = append(texts, n.Name+n.Text)
	}
	return strings.Join(texts, "|")
}

var all = []string{"x", " ", "\x00", "<!--c-->", "<!doctype>", "<p>", "</p>", "<g>", "</g>", "<svg>", "<mglyph>", "<malignmark>", "</svg>", "</mglyph>"}

// applies holds which of all tokens it applies to against what is said.
func applies(t *testing.T, b *builder.Builder, what string, to func(text string) bool) {
	t.Helper()
	for _, text := range all {
		if got := foreign.Applies(b, one(text)); got != to(text) {
			t.Errorf("%s: %q: %v", what, text, got)
		}
	}
	if foreign.Applies(b, api.Token{Kind: api.ToEOF}) {
		t.Errorf("%s: the end", what)
	}
}

// P22.1: where it applies.
func TestApplies(t *testing.T) {
	always := func(text string) bool { return true }
	never := func(text string) bool { return false }
	chars := func(text string) bool { return !strings.HasPrefix(text, "<") }
	start := func(text string) bool { return strings.HasPrefix(text, "<") && strings.Trim(text[:2], "<!/") != "" }
	applies(t, builder.New(), "nothing open", never)
	for _, names := range []string{"", "html:p", "svg html:p", "svg desc html:title", "math mi html:mi", "html:desc", "html:mi"} {
		applies(t, fresh(names), names, never)
	}
	for _, names := range []string{"svg", "svg g", "math", "math mrow", "svg mi", "math desc", "math title", "math foreignobject", "svg annotation-xml", "html:p svg", "svg path", "math semantics"} {
		applies(t, fresh(names), names, always)
	}
	for _, names := range []string{"math mi", "math mo", "math mn", "math ms", "math mtext"} {
		applies(t, fresh(names), names, func(text string) bool {
			return !chars(text) && (!start(text) || text == "<mglyph>" || text == "<malignmark>")
		})
	}
	for _, names := range []string{"svg foreignobject", "svg desc", "svg title"} {
		applies(t, fresh(names), names, func(text string) bool { return !chars(text) && !start(text) })
	}
}

// P22.1: annotations.
func TestAnnotations(t *testing.T) {
	for attrs, point := range map[string]bool{
		"": false, "encoding=text/html": true, "encoding=TEXT/Html": true, "encoding=application/xhtml+xml": true, "encoding=Application/XHTML+XML": true, "encoding=' text/html'": false, "encoding=text/xml": false, "encoding": false, "x=text/html": false, "encoding=x encoding=text/html": false, "encoding=text/htm\u017f": false,
	} {
		b := fresh("math")
		b.Insert(one("<annotation-xml "+attrs+">"), api.SpMath)
		for _, text := range all {
			start := strings.HasPrefix(text, "<") && strings.Trim(text[:2], "<!/") != ""
			want := text != "<svg>" && (!point || strings.HasPrefix(text, "<") && !start)
			if got := foreign.Applies(b, one(text)); got != want {
				t.Errorf("%q: %q: %v", attrs, text, got)
			}
		}
	}
	b := fresh("svg")
	b.Insert(one("<annotation-xml encoding=text/html>"), api.SpSVG)
	if !foreign.Applies(b, one("x")) || !foreign.Applies(b, one("<svg>")) {
		t.Error("an annotation of SVG")
	}
}

// P22.2: what is no tag.
func TestNoTags(t *testing.T) {
	b := fresh("svg g")
	for _, tok := range []api.Token{one("x"), one(" "), {Kind: api.ToNul, Text: "\x00\x00"}, one("<!--c-->"), one("y"), one("<!doctype z>"), {Kind: api.ToEOF}} {
		if got := foreign.Step(b, tok); got != foreign.Done {
			t.Errorf("%+v: %d", tok, got)
		}
	}
	if got := kids(b, 4); got != "x \ufffd\ufffd|c|y" || open(b) != "svg g" {
		t.Errorf("%q, open %q", got, open(b))
	}
	if foreign.Done != 0 || foreign.Again != 1 || foreign.Mode != 2 {
		t.Error("what Step tells")
	}
}

// P22.2: tags that leave.
func TestLeaving(t *testing.T) {
	names := "b big blockquote body br center code dd div dl dt em embed h1 h2 h3 h4 h5 h6 head hr i img li listing menu meta nobr ol p pre ruby s small span strong strike sub sup table tt u ul var"
	tags := []string{"</br>", "</p>", "<font color>", "<font x face=y>", "<font size=1>"}
	for _, name := range strings.Fields(names) {
		tags = append(tags, "<"+name+">")
	}
	for _, tag := range tags {
		for names, want := range map[string]string{"svg g path": "", "svg desc g": "svg desc", "svg foreignobject math g": "svg foreignobject", "math mi g": "math mi", "html:p math mrow": "p", "svg html:p g": "svg p", "svg title": "svg title", "math mtext": "math mtext", "": ""} {
			b := fresh(names)
			told := foreign.Again
			if open(b) == want {
				told = foreign.Mode
			}
			if got := foreign.Step(b, one(tag)); got != told || open(b) != want {
				t.Errorf("%s in %q: %d, open %q", tag, names, got, open(b))
			}
		}
	}
	b := fresh("math")
	b.Insert(one("<annotation-xml encoding=text/html>"), api.SpMath)
	b.Insert(one("<g>"), api.SpMath)
	if foreign.Step(b, one("<p>")) != foreign.Again || open(b) != "math annotation-xml" {
		t.Errorf("open %q", open(b))
	}
	b = fresh("math annotation-xml g")
	if foreign.Step(b, one("<p>")) != foreign.Again || open(b) != "" {
		t.Errorf("open %q", open(b))
	}
	b = builder.New()
	b.Insert(one("<svg>"), api.SpSVG)
	if foreign.Step(b, one("<p>")) != foreign.Again || b.Stack().Len() != 0 {
		t.Error("none is left")
	}
	if foreign.Step(b, one("<p>")) != foreign.Mode || b.Arena().Len() != 2 {
		t.Error("none was there")
	}
}

// P22.2: other start tags.
func TestStarts(t *testing.T) {
	for names, space := range map[string]int{"svg g": api.SpSVG, "math mrow": api.SpMath} {
		for _, tag := range []string{"<x a=1>", "<svg a=1>", "<font a=1>", "<script a=1>", "<title a=1>", "<a a=1>", "<td a=1>", "<html a=1>", "<textarea a=1>"} {
			b := fresh(names)
			if got := foreign.Step(b, one(tag)); got != foreign.Done || b.Stack().Len() != 5 {
				t.Errorf("%s: %d, open %q", tag, got, open(b))
			}
			if n := b.Current(); n.Space != space || n.Parent != 4 || len(n.Attrs) != 1 || n.Name != one(tag).Name {
				t.Errorf("%s: %+v", tag, n)
			}
			if _, _, ok := b.Ask(); ok {
				t.Errorf("%s: asks", tag)
			}
		}
		b := fresh(names)
		if foreign.Step(b, one("<x/>")) != foreign.Done || open(b) != names || kids(b, 4) != "x" {
			t.Errorf("closes itself: open %q", open(b))
		}
	}
	b := fresh("svg")
	for b.Stack().Len() < api.MaxDepth {
		b.Insert(one("<g>"), api.SpSVG)
	}
	if foreign.Step(b, one("<g/>")) != foreign.Done || b.Err() != api.ErrDepth || b.Stack().Len() != api.MaxDepth {
		t.Error("too deep")
	}
}

// P22.2: other end tags.
func TestEnds(t *testing.T) {
	for _, x := range []struct {
		names, tag string
		told       int
		want       string
	}{
		{"svg g", "</svg>", foreign.Done, ""}, {"svg g", "</g>", foreign.Done, "svg"}, {"svg g path", "</g>", foreign.Done, "svg"}, {"svg g g", "</g>", foreign.Done, "svg g"}, {"svg g", "</x>", foreign.Mode, "svg g"}, {"svg g", "</body>", foreign.Mode, "svg g"}, {"html:p svg", "</p>", foreign.Again, "p"},
		{"svg html:q", "</svg>", foreign.Mode, "svg q"}, {"html:g svg path", "</g>", foreign.Mode, "g svg path"}, {"math svg g", "</math>", foreign.Done, ""}, {"math mi", "</p>", foreign.Mode, "math mi"}, {"math mi", "</mi>", foreign.Done, "math"}, {"svg desc", "</desc>", foreign.Done, "svg"}, {"svg script", "</script>", foreign.Done, "svg"}, {"", "</x>", foreign.Mode, ""},
	} {
		b := fresh(x.names)
		if got := foreign.Step(b, one(x.tag)); got != x.told || open(b) != x.want {
			t.Errorf("%s in %q: %d, open %q", x.tag, x.names, got, open(b))
		}
	}
	b := builder.New()
	b.Insert(one("<svg>"), api.SpSVG)
	b.Insert(one("<g>"), api.SpSVG)
	if foreign.Step(b, one("</x>")) != foreign.Done || b.Stack().Len() != 2 {
		t.Error("behind the first one")
	}
	if foreign.Step(b, one("</svg>")) != foreign.Done || b.Stack().Len() != 0 {
		t.Error("the first one")
	}
	if foreign.Step(b, one("</svg>")) != foreign.Done {
		t.Error("nothing is open")
	}
}

// What is done with builders that are none.
func TestNone(t *testing.T) {
	for _, b := range []*builder.Builder{nil, {}} {
		for _, text := range all {
			if foreign.Applies(b, one(text)) || foreign.Step(b, one(text)) != foreign.Done {
				t.Errorf("%q", text)
			}
		}
	}
}
