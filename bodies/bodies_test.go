package bodies_test

import (
	"reflect"
	"slices"
	"strings"
	"testing"

	"lazaret/api"
	"lazaret/bodies"
	"lazaret/builder"
	"lazaret/heads"
	"lazaret/tokens"
)

// fresh is a builder with html and body, 1 and 2, in MoBody.
func fresh() *builder.Builder {
	b := builder.New()
	b.Imply("html")
	b.Imply("body")
	b.Set(builder.MoBody)
	return b
}

// feed does the tokens of a text, but its end; other modes than these and raw
// text's are done as in the body.
func feed(b *builder.Builder, text string) {
	l := tokens.New(text)
	for t := l.Next(false); t.Kind != api.ToEOF; t = l.Next(false) {
		if b.Skips() && t.Kind == api.ToSpace {
			t.Text = strings.TrimPrefix(t.Text, "\n")
		}
		for again := true; again; {
			switch b.Mode() {
			case builder.MoText:
				again = heads.Step(b, t)
			case builder.MoBody, builder.MoAfterBody, builder.MoAfterAfter:
				again = bodies.Step(b, t)
			default:
				again = bodies.Body(b, t)
			}
		}
		if state, name, ok := b.Ask(); ok {
			l.Raw(state, name)
		}
	}
}

func fed(text string) *builder.Builder {
	b := fresh()
	feed(b, text)
	return b
}

// one is the only token of a text.
func one(text string) api.Token { return tokens.New(text).Next(false) }

// show is what a node has, as text.
func show(b *builder.Builder, i int) string {
	n := b.Arena().Node(i)
	if n.Content > 0 {
		return show(b, n.Content)
	}
	var texts []string
	for _, k := range n.Kids {
		switch n := b.Arena().Node(k); n.Kind {
		case api.NoText:
			texts = append(texts, n.Text)
		case api.NoComment:
			texts = append(texts, "#"+n.Text)
		default:
			texts = append(texts, n.Name+"("+show(b, k)+")")
		}
	}
	return strings.Join(texts, " ")
}

// open are the names of the open elements behind html and body.
func open(b *builder.Builder) string {
	var names []string
	for k := 2; k < b.Stack().Len(); k++ {
		names = append(names, b.Arena().Node(b.Stack().At(k)).Name)
	}
	return strings.Join(names, " ")
}

// check feeds a text, and holds the body's kids and what is open against what
// they are to be.
func check(t *testing.T, text, want, wantOpen string) *builder.Builder {
	t.Helper()
	b := fed(text)
	if got := show(b, 2); got != want || open(b) != wantOpen {
		t.Errorf("%q: %s, open %q; want %s, %q", text, got, open(b), want, wantOpen)
	}
	return b
}

// P20.1: what is no tag.
func TestNoTags(t *testing.T) {
	check(t, "a \n\x00b<!doctype x>c", "a \nbc", "")
	check(t, "<p><!--c-->x", "p(#c x)", "p")
	check(t, "<b>1<p>2</b></p>3 ", "b(1) p(b(2)) 3 ", "")
	b := check(t, "<p><b></p> ", "p(b()) b( )", "b")
	if n := b.Arena().Node(5); n.Name != "b" {
		t.Errorf("spaces: %+v", n)
	}
	check(t, "<p><b></p><!--c-->", "p(b()) #c", "")
	for _, tok := range []api.Token{{Kind: api.ToEOF}, {Kind: api.ToDoctype}, {Kind: api.ToNul, Text: "\x00"}} {
		b := fresh()
		if bodies.Body(b, tok) || b.Arena().Len() != 3 || b.Mode() != builder.MoBody {
			t.Errorf("%+v", tok)
		}
	}
}

// P20.1: the text's end in templates.
func TestEnd(t *testing.T) {
	end := api.Token{Kind: api.ToEOF}
	b := fed("<template>")
	b.Set(builder.MoBody)
	if !bodies.Body(b, end) || open(b) != "" || b.Mode() != builder.MoBody || bodies.Body(b, end) {
		t.Errorf("open %q, mode %d", open(b), b.Mode())
	}
	b = fresh()
	b.Push(builder.MoTemplate)
	if bodies.Body(b, end) {
		t.Error("a template mode, but no template")
	}
	b = fed("<template>")
	b.Pop()
	if bodies.Body(b, end) || open(b) != "template" {
		t.Error("a template, but no template mode")
	}
}

// P20.2: never again.
func TestStartsNever(t *testing.T) {
	for _, name := range strings.Fields("html head body p div table tr form svg math b a nobr select option button template title script image frameset plaintext x li dd applet rb textarea xmp") {
		if b := fresh(); bodies.Body(b, one("<"+name+">")) {
			t.Errorf("%s: again", name)
		}
	}
}

// P20.2: html, body, what belongs to a head, and what is left out.
func TestStartHead(t *testing.T) {
	b := fed("<html a=1><html a=2 b=3><body c=4><body c=5 d=6>")
	want := [2][]api.Attr{{{Name: "a", Value: "1"}, {Name: "b", Value: "3"}}, {{Name: "c", Value: "4"}, {Name: "d", Value: "6"}}}
	if !reflect.DeepEqual(b.Arena().Node(1).Attrs, want[0]) || !reflect.DeepEqual(b.Arena().Node(2).Attrs, want[1]) || b.Arena().Len() != 3 {
		t.Errorf("%+v", b.Arena().Tree())
	}
	b = fresh()
	b.Imply("template")
	feed(b, "<body a><html a>")
	if len(b.Arena().Node(1).Attrs)+len(b.Arena().Node(2).Attrs) > 0 {
		t.Error("in a template")
	}
	b = builder.New()
	b.Imply("html")
	b.Imply("p")
	if bodies.Body(b, one("<body a>")); len(b.Current().Attrs) > 0 {
		t.Error("no body")
	}
	check(t, "<base><basefont><bgsound><link><meta>", "base() basefont() bgsound() link() meta()", "")
	check(t, "<p><title>x<b></title><style>y<b></style><script>z<b></script><noframes>w<b></noframes>", "p(title(x<b>) style(y<b>) script(z<b>) noframes(w<b>))", "p")
	b = check(t, "<p><template>", "p(template())", "p template")
	if b.Mode() != builder.MoTemplate || b.Formats().Len() != 1 || len(b.Modes()) != 1 {
		t.Error("template")
	}
	check(t, "<p><caption><col><colgroup><frame><frameset><head><tbody><td><tfoot><th><thead><tr>x", "p(x)", "p")
	check(t, "</template>x", "x", "")
}

// P20.2: blocks, headings, pre, plaintext.
func TestBlocks(t *testing.T) {
	blocks := "address article aside blockquote center details dialog dir div dl fieldset figcaption figure footer header hgroup main menu nav ol p search section summary ul"
	for _, name := range strings.Fields(blocks) {
		check(t, "<p>x<"+name+">y", "p(x) "+name+"(y)", name)
		check(t, "<p><b>x<"+name+">y", "p(b(x)) "+name+"(b(y))", name+" b")
		check(t, "<p><button><"+name+">", "p(button("+name+"()))", "p button "+name)
	}
	for _, name := range strings.Fields("h1 h2 h3 h4 h5 h6") {
		check(t, "<p><h4><"+name+">x", "p() h4() "+name+"(x)", name)
		check(t, "<p><"+name+"><h2>x", "p() "+name+"() h2(x)", "h2")
	}
	check(t, "<h3><b><h3>", "h3(b(h3()))", "h3 b h3")
	check(t, "<h6><div><h6>", "h6(div(h6()))", "h6 div h6")
	for _, name := range []string{"pre", "listing"} {
		check(t, "<p><"+name+">\n\nx", "p() "+name+"(\nx)", name)
		b := check(t, "<"+name+">", name+"()", name)
		if feed(b, "<b>"); show(b, 2) != name+"(b())" {
			t.Errorf("%s: %s", name, show(b, 2))
		}
	}
	check(t, "<p><plaintext><b></plaintext>\x00", "p() plaintext(<b></plaintext>\ufffd)", "plaintext")
	b := fresh()
	svg := b.Insert(one("<h1>"), api.SpSVG)
	if bodies.Body(b, one("<h2>")); b.Stack().Index(svg) < 0 {
		t.Error("a heading of SVG")
	}
}

// P20.2: forms.
func TestForm(t *testing.T) {
	b := check(t, "<p><form a><form b>x", "p() form(x)", "form")
	if b.Form() != 4 {
		t.Errorf("form %d", b.Form())
	}
	b = fresh()
	b.Imply("template")
	if feed(b, "<form><form>"); b.Form() != -1 || open(b) != "template form form" {
		t.Errorf("form %d, open %q", b.Form(), open(b))
	}
	b.SetForm(1)
	if feed(b, "<form>"); b.Form() != 1 || open(b) != "template form form form" {
		t.Errorf("form %d, open %q", b.Form(), open(b))
	}
}

// P20.2: items of lists.
func TestItems(t *testing.T) {
	check(t, "<li>1<li>2", "li(1) li(2)", "li")
	check(t, "<li><b><p>1<li>2", "li(b(p(1))) li(b(2))", "li b")
	check(t, "<li><div><address><p><li>", "li(div(address(p()))) li()", "li")
	check(t, "<li><ul><li>", "li(ul(li()))", "li ul li")
	check(t, "<li><section><li>", "li(section(li()))", "li section li")
	check(t, "<p><li>", "p() li()", "li")
	check(t, "<dd>1<dt>2<dd>3", "dd(1) dt(2) dd(3)", "dd")
	check(t, "<dd><dt><div><dd>", "dd() dt(div()) dd()", "dd")
	check(t, "<dd><li><dd>", "dd(li(dd()))", "dd li dd")
	check(t, "<li><dd><li>", "li(dd(li()))", "li dd li")
	check(t, "<dd><dl><dd>", "dd(dl(dd()))", "dd dl dd")
	b := fed("<li>")
	b.Insert(one("<li>"), api.SpSVG)
	if feed(b, "<li>"); open(b) != "li" {
		t.Errorf("open %q", open(b))
	}
	b = fed("<li>")
	b.Insert(one("<desc>"), api.SpSVG)
	if feed(b, "<li>"); open(b) != "li desc li" {
		t.Errorf("open %q", open(b))
	}
}

// P20.2: buttons, and options.
func TestButtons(t *testing.T) {
	check(t, "<button>1<button>2", "button(1) button(2)", "button")
	check(t, "<button><b><p><button>2", "button(b(p())) b(button(2))", "b button")
	check(t, "<p><button>", "p(button())", "p button")
	check(t, "<select>1<p>2<select>3", "select(1 p(2)) 3", "")
	check(t, "<b><p></b><select>", "b() p(b() select())", "p select")
	check(t, "<option>1<option>2<optgroup>3<option>4", "option(1) option(2) optgroup(3 option(4))", "optgroup option")
	check(t, "<option><b><option>", "option(b(option()))", "option b option")
	check(t, "<p><b></p><option>", "p(b()) b(option())", "b option")
	check(t, "<rb>1<rt>2", "rb(1 rt(2))", "rb rt")
	check(t, "<ruby>1<rb>2<rt>3<rp>4<rtc>5<rt>6<rp>7<rb>8", "ruby(1 rb(2) rt(3) rp(4) rtc(5 rt(6) rp(7)) rb(8))", "ruby rb")
	check(t, "<ruby><p><rt><li><rtc>", "ruby(p() rt(li()) rtc())", "ruby rtc")
}

// P20.2: formatting elements.
func TestFormatting(t *testing.T) {
	for _, name := range strings.Fields("b big code em font i s small strike strong tt u") {
		b := check(t, "<p><"+name+">x</p>y", "p("+name+"(x)) "+name+"(y)", name)
		if b.Formats().Len() != 1 {
			t.Errorf("%s: %d entries", name, b.Formats().Len())
		}
		check(t, "<"+name+">1<"+name+">2", name+"(1 "+name+"(2))", name+" "+name)
	}
	check(t, "<a>x<a>y", "a(x) a(y)", "a")
	check(t, "<a>x<p>y<a>z", "a(x) p(a(y) a(z))", "p a")
	check(t, "<a><table><a>", "a(table(a()))", "table a")
	check(t, "<a><marquee><a>", "a(marquee(a()))", "a marquee a")
	check(t, "<a><div><div><p><a>x", "a() div(a() div(a() p(a() a(x))))", "div div p a")
	check(t, "<nobr>1<nobr>2", "nobr(1) nobr(2)", "nobr")
	check(t, "<nobr><p><nobr>", "nobr() p(nobr() nobr())", "p nobr")
	check(t, "<p><nobr></p><nobr>", "p(nobr()) nobr() nobr()", "nobr")
	b := fresh()
	for i := range api.MaxFormats + 1 {
		if b.Err() != api.OK {
			t.Errorf("%d: %d", i, b.Err())
		}
		feed(b, "<b x="+strings.Repeat("y", i)+">")
	}
	if b.Err() != api.ErrLong {
		t.Errorf("65: %d", b.Err())
	}
}

// P20.2: an a that the formatting rules leave is removed.
func TestStartA(t *testing.T) {
	b := check(t, "<a>x<table><td>", "a(x table())", "a table")
	b.Imply("td")
	if feed(b, "<a>y"); show(b, 2) != "a(x table(td(a(y))))" || b.Formats().Len() != 1 {
		t.Errorf("%s, %d entries", show(b, 2), b.Formats().Len())
	}
}

// P20.2: markers, tables, single elements.
func TestSingles(t *testing.T) {
	for _, name := range []string{"applet", "marquee", "object"} {
		b := check(t, "<p><b></p><"+name+">x", "p(b()) b("+name+"(x))", "b "+name)
		if _, marker := b.Formats().At(1); !marker {
			t.Errorf("%s: no marker", name)
		}
	}
	b := fresh()
	for range api.MaxFormats + 1 {
		feed(b, "<object>")
	}
	if b.Err() != api.ErrLong {
		t.Errorf("65 markers: %d", b.Err())
	}
	for _, quirks := range []bool{false, true} {
		b := fed("<p>")
		b.SetQuirks(quirks)
		bodies.Body(b, one("<table>"))
		if want := map[bool]string{false: "table", true: "p table"}[quirks]; open(b) != want || b.Mode() != builder.MoTable {
			t.Errorf("quirks %v: open %q, mode %d", quirks, open(b), b.Mode())
		}
	}
	for _, name := range strings.Fields("area br embed img keygen wbr input") {
		check(t, "<p><b></p><"+name+" a>x", "p(b()) b("+name+"() x)", "b")
	}
	for _, name := range strings.Fields("param source track") {
		check(t, "<p><b></p><"+name+">", "p(b()) "+name+"()", "")
	}
	check(t, "<p><b>x<hr>y", "p(b(x)) hr() b(y)", "b")
	b = check(t, "<p><b></p><image a=1>", "p(b()) b(img())", "b")
	if n := b.Arena().Node(b.Arena().Len() - 1); len(n.Attrs) != 1 {
		t.Errorf("image: %+v", n)
	}
}

// P20.2: raw texts.
func TestRaws(t *testing.T) {
	check(t, "<textarea>\n\n<b>&lt;</textarea>x", "textarea(\n<b><) x", "")
	check(t, "<p><b></p><textarea></textarea>", "p(b()) textarea()", "")
	check(t, "<p><b></p><xmp><i>&lt;</xmp>x", "p(b()) b(xmp(<i>&lt;) x)", "b")
	check(t, "<p><b>1<xmp>2</xmp>", "p(b(1)) b(xmp(2))", "b")
	check(t, "<p><b></p><iframe><i>&lt;</iframe><noembed><u></noembed>", "p(b()) iframe(<i>&lt;) noembed(<u>)", "")
	check(t, "<xmp>\nx</xmp>", "xmp(\nx)", "")
	check(t, "<noscript><b>x", "noscript(b(x))", "noscript b")
}

// P20.2: SVG, MathML, and all others.
func TestOthers(t *testing.T) {
	b := check(t, "<p><b></p><svg a><math>", "p(b()) b(svg(math()))", "b svg math")
	if n := b.Arena().Node(6); n.Space != api.SpSVG || n.Name != "svg" || len(n.Attrs) != 1 || b.Current().Space != api.SpMath {
		t.Errorf("%+v", b.Arena().Tree())
	}
	check(t, "<svg/><math/>x", "svg() math() x", "")
	check(t, "<p><b></p><x-y>1<x-y/>2", "p(b()) b(x-y(1 x-y(2)))", "b x-y x-y")
	check(t, "<span><ruby><td/>x", "span(ruby(x))", "span ruby")
}

// P20.3: end tags of blocks, and of what is like them.
func TestEndBlocks(t *testing.T) {
	names := "address article aside blockquote button center details dialog dir div dl fieldset figcaption figure footer header hgroup listing main menu nav ol pre search section select summary ul"
	for _, name := range strings.Fields(names) {
		check(t, "<"+name+"><i><p></"+name+">x", name+"(i(p())) i(x)", "i")
		check(t, "<"+name+"><object></"+name+">x", name+"(object(x))", name+" object")
		check(t, "</"+name+">x", "x", "")
	}
	check(t, "<div><div></div>", "div(div())", "div")
	check(t, "<section><div></section>x", "section(div()) x", "")
}

// P20.3: body, and html.
func TestEndBody(t *testing.T) {
	b := fed("<p>")
	if bodies.Body(b, one("</body>")) || b.Mode() != builder.MoAfterBody || open(b) != "p" {
		t.Errorf("mode %d", b.Mode())
	}
	b = fed("<p>")
	if !bodies.Body(b, one("</html>")) || b.Mode() != builder.MoAfterBody {
		t.Errorf("mode %d", b.Mode())
	}
	for _, text := range []string{"</body>", "</html>"} {
		b = fed("<object>")
		if bodies.Body(b, one(text)) || b.Mode() != builder.MoBody {
			t.Errorf("not in scope: mode %d", b.Mode())
		}
	}
}

// P20.3: forms.
func TestEndForm(t *testing.T) {
	b := check(t, "<form><div><p></form>x", "form(div(p() x))", "div")
	if b.Form() != -1 {
		t.Errorf("form %d", b.Form())
	}
	b = check(t, "<form><object></form>x", "form(object(x))", "form object")
	if b.Form() != -1 {
		t.Errorf("form %d", b.Form())
	}
	check(t, "</form>x", "x", "")
	b = fresh()
	b.Imply("form")
	if feed(b, "</form>"); open(b) != "form" {
		t.Error("no form element")
	}
	b = fresh()
	b.SetForm(1)
	b.Imply("template")
	b.Imply("form")
	b.Imply("i")
	if feed(b, "</form>"); open(b) != "template" || b.Form() != 1 {
		t.Errorf("in a template: open %q, form %d", open(b), b.Form())
	}
}

// P20.3: p, items, headings.
func TestEndItems(t *testing.T) {
	b := check(t, "</p>x", "p() x", "")
	if n := b.Arena().Node(3); n.From != -1 || n.To != -1 {
		t.Errorf("%+v", n)
	}
	check(t, "<p><i></p>x", "p(i()) i(x)", "i")
	check(t, "<p><button></p>x", "p(button(p() x))", "p button")
	check(t, "<p><ul></p>", "p() ul(p())", "ul")
	check(t, "<li><i><dd></li>x", "li(i(dd())) i(x)", "i")
	check(t, "<li><ul></li>x", "li(ul(x))", "li ul")
	check(t, "</li></dd></dt>x", "x", "")
	check(t, "<dd><i><ul></dd>x", "dd(i(ul())) i(x)", "i")
	check(t, "<dt><object></dt>x", "dt(object(x))", "dt object")
	check(t, "<dd></dt>x", "dd(x)", "dd")
	check(t, "<dd><dt></dt>", "dd() dt()", "")
	check(t, "<dt><div></dt>x", "dt(div()) x", "")
	check(t, "<dd><div></dd>x", "dd(div()) x", "")
	check(t, "<li><div></li>x", "li(div()) x", "")
	for _, name := range strings.Fields("h1 h2 h3 h4 h5 h6") {
		check(t, "<"+name+"><div></h3>x", name+"(div()) x", "")
		check(t, "<h3><div></"+name+">x", "h3(div()) x", "")
	}
	check(t, "<h1><i></h3>x", "h1(i()) i(x)", "i")
	check(t, "<h1><h2><object></h1>x", "h1() h2(object(x))", "h2 object")
	check(t, "</h1>x", "x", "")
	check(t, "<h1><div><h2><p></h1>", "h1(div(h2(p())))", "h1 div")
}

// P20.3: formatting tags, markers, br, and all others.
func TestEndOthers(t *testing.T) {
	for _, name := range strings.Fields("a b big code em font i nobr s small strike strong tt u") {
		check(t, "<"+name+">1<p>2</"+name+">3", name+"(1) p("+name+"(2) 3)", "p")
		check(t, "<x-y></"+name+">x", "x-y(x)", "x-y")
	}
	b := fresh()
	b.Imply("b")
	b.Imply("span")
	if feed(b, "</b>"); open(b) != "" {
		t.Errorf("not in the list: open %q", open(b))
	}
	for _, name := range []string{"applet", "marquee", "object"} {
		b := check(t, "<i><"+name+"><b><p></"+name+">x", "i("+name+"(b(p())) x)", "i")
		if b.Formats().Len() != 1 {
			t.Errorf("%s: %d entries", name, b.Formats().Len())
		}
		b = check(t, "<i></"+name+">x", "i(x)", "i")
		if b.Formats().Len() != 1 {
			t.Errorf("%s, not in scope: %d entries", name, b.Formats().Len())
		}
	}
	b = check(t, "<p><b></p></br a=1>", "p(b()) b(br())", "b")
	if n := b.Arena().Node(b.Arena().Len() - 1); n.From != -1 || n.To != -1 || len(n.Attrs) > 0 {
		t.Errorf("br: %+v", n)
	}
	check(t, "<x-y><i></x-y>z", "x-y(i()) i(z)", "i")
	check(t, "<x-y><p></x-y>z", "x-y(p(z))", "x-y p")
	check(t, "<span></table></td></img>x", "span(x)", "span")
	b = fed("<template>")
	if feed(b, "</template>"); open(b) != "" || b.Mode() != builder.MoBody {
		t.Errorf("template: open %q, mode %d", open(b), b.Mode())
	}
}

// P20.4: behind the body.
func TestBehind(t *testing.T) {
	b := fed("<p>x</body> <!--c--><!doctype y><html z>")
	if b.Mode() != builder.MoAfterBody || show(b, 2) != "p(x )" || show(b, 1) != "body(p(x )) #c" || len(b.Arena().Node(1).Attrs) != 1 {
		t.Errorf("mode %d, %s", b.Mode(), show(b, 0))
	}
	b = fed("<p>x</body></html> <!--c--><!doctype y><html z>")
	if b.Mode() != builder.MoAfterAfter || show(b, 0) != "html(body(p(x ))) #c" || len(b.Arena().Node(1).Attrs) != 1 {
		t.Errorf("mode %d, %s", b.Mode(), show(b, 0))
	}
	for _, mode := range []int{builder.MoAfterBody, builder.MoAfterAfter} {
		for _, tok := range []api.Token{one("x"), one("\x00"), one("<p>"), one("</p>"), one("</body>"), one("<body>")} {
			b := fresh()
			b.Set(mode)
			if !bodies.Step(b, tok) || b.Mode() != builder.MoBody || b.Arena().Len() != 3 {
				t.Errorf("mode %d: %+v: mode %d", mode, tok, b.Mode())
			}
		}
		b := fresh()
		b.Set(mode)
		b.Push(builder.MoTemplate)
		b.Imply("template")
		if bodies.Step(b, api.Token{Kind: api.ToEOF}) || b.Mode() != mode || open(b) != "template" {
			t.Errorf("mode %d: the end", mode)
		}
	}
	b = fresh()
	b.Set(builder.MoAfterBody)
	if bodies.Step(b, one("</html>")) || b.Mode() != builder.MoAfterAfter {
		t.Errorf("html ends: mode %d", b.Mode())
	}
	if !bodies.Step(b, one("</html>")) || b.Mode() != builder.MoBody {
		t.Errorf("html ends again: mode %d", b.Mode())
	}
	if !slices.Equal(b.Arena().Node(0).Kids, []int{1}) {
		t.Error("kids")
	}
}

// P20.4: other modes.
func TestOtherModes(t *testing.T) {
	for _, mode := range []int{builder.MoInitial, builder.MoHead, builder.MoAfterHead, builder.MoText, builder.MoTable, builder.MoCell, builder.MoTemplate, -1, 18} {
		for _, text := range []string{"x", "<p>", "</html>", "<!--c-->", " "} {
			b := fresh()
			b.Set(mode)
			if bodies.Step(b, one(text)) || b.Mode() != mode || b.Arena().Len() != 3 {
				t.Errorf("mode %d: %q", mode, text)
			}
		}
	}
	b := fresh()
	if bodies.Step(b, one("<p>")); open(b) != "p" {
		t.Error("MoBody")
	}
}

// What is done with builders that are none.
func TestNone(t *testing.T) {
	for _, b := range []*builder.Builder{nil, {}} {
		for _, text := range []string{"x", "<p>", "</html>", "</p>", "<!--c-->", ""} {
			if bodies.Step(b, one(text)) || bodies.Body(b, one(text)) {
				t.Errorf("%q: true", text)
			}
		}
	}
}
