package bodies

import (
	"lazaret/api"
	"lazaret/builder"
	"lazaret/heads"
	"lazaret/kinds"
)

// starts does a start tag.
func starts(b *builder.Builder, t api.Token) {
	if r, ok := startRules()[t.Name]; ok {
		r.do(b, t)
	} else {
		plain(b, t)
	}
}

// startRules are those of start tags; all others are plain.
func startRules() map[string]rule {
	rules := map[string]rule{
		"a":         {startA},
		"body":      {startBody},
		"button":    {startButton},
		"form":      {startForm},
		"hr":        {startHR},
		"html":      {func(b *builder.Builder, t api.Token) { b.HTML(t) }},
		"image":     {startImage},
		"li":        {item("li")},
		"math":      {foreign(api.SpMath)},
		"nobr":      {startNobr},
		"plaintext": {startPlaintext},
		"select":    {startSelect},
		"svg":       {foreign(api.SpSVG)},
		"table":     {startTable},
		"textarea":  {startTextarea},
		"xmp":       {startXmp},
	}
	give(rules, head, "base", "basefont", "bgsound", "link", "meta", "noframes", "script", "style", "template", "title")
	give(rules, nothing, "caption", "col", "colgroup", "frame", "frameset", "head", "tbody", "td", "tfoot", "th", "thead", "tr")
	give(rules, block,
		"address", "article", "aside", "blockquote", "center", "details", "dialog", "dir", "div", "dl", "fieldset",
		"figcaption", "figure", "footer", "header", "hgroup", "main", "menu", "nav", "ol", "p", "search", "section",
		"summary", "ul")
	give(rules, startHeading, "h1", "h2", "h3", "h4", "h5", "h6")
	give(rules, startPre, "pre", "listing")
	give(rules, item("dd", "dt"), "dd", "dt")
	give(rules, formatting, "b", "big", "code", "em", "font", "i", "s", "small", "strike", "strong", "tt", "u")
	give(rules, startMarked, "applet", "marquee", "object")
	give(rules, single, "area", "br", "embed", "img", "input", "keygen", "wbr")
	give(rules, only, "param", "source", "track")
	give(rules, raw, "iframe", "noembed")
	give(rules, startOption, "optgroup", "option")
	give(rules, ruby(""), "rb", "rtc")
	give(rules, ruby("rtc"), "rp", "rt")
	return rules
}

func nothing(b *builder.Builder, t api.Token) {}

func head(b *builder.Builder, t api.Token) { heads.Head(b, t) }

func only(b *builder.Builder, t api.Token) { b.Only(t) }

func raw(b *builder.Builder, t api.Token) { b.Raw(t, kinds.State(t.Name)) }

func startBody(b *builder.Builder, t api.Token) {
	second := b.Stack().At(1)
	if isHTML(b.Arena().Node(second), "body") && !b.Open("template") {
		b.Arena().More(second, t.Attrs)
	}
}

func startHeading(b *builder.Builder, t api.Token) {
	b.CloseP()
	if kinds.Heading(b.Current().Name) && b.Current().Space == api.SpHTML {
		b.Stack().Pop()
	}
	b.Insert(t, api.SpHTML)
}

func startPre(b *builder.Builder, t api.Token) {
	block(b, t)
	b.Skip()
}

func startPlaintext(b *builder.Builder, t api.Token) {
	block(b, t)
	b.Plain()
}

func startForm(b *builder.Builder, t api.Token) {
	inTemplate := b.Open("template")
	if b.Form() >= 0 && !inTemplate {
		return
	}
	b.CloseP()
	form := b.Insert(t, api.SpHTML)
	if !inTemplate {
		b.SetForm(form)
	}
}

// item opens an item of a list, of which the last one, of one of these names,
// is shut.
func item(names ...string) func(b *builder.Builder, t api.Token) {
	return func(b *builder.Builder, t api.Token) {
		shutItem(b, names)
		block(b, t)
	}
}

func shutItem(b *builder.Builder, names []string) {
	for k := b.Stack().Len() - 1; k >= 0; k-- {
		n := b.Arena().Node(b.Stack().At(k))
		switch {
		case isHTML(n, names...):
			b.Stack().Implied(n.Name)
			b.Stack().Until(n.Name)
			return
		case isHTML(n, "address", "div", "p"):
		case kinds.Special(n.Space, n.Name):
			return
		}
	}
}

func startButton(b *builder.Builder, t api.Token) {
	shut(b, "button")
	plain(b, t)
}

func startA(b *builder.Builder, t api.Token) {
	if a := b.Formats().Last("a"); a >= 0 {
		endFormatting(b, "a")
		b.Formats().Remove(a)
		b.Stack().Remove(a)
	}
	formatting(b, t)
}

func startNobr(b *builder.Builder, t api.Token) {
	b.Rebuild()
	if inScope(b, "nobr") {
		endFormatting(b, "nobr")
	}
	formatting(b, t)
}

// formatting opens a formatting element.
func formatting(b *builder.Builder, t api.Token) {
	b.Rebuild()
	b.Fail(b.Formats().Push(b.Insert(t, api.SpHTML)))
}

// startMarked opens an element that formatting elements do not go out of.
func startMarked(b *builder.Builder, t api.Token) {
	plain(b, t)
	b.Fail(b.Formats().Mark())
}

func startTable(b *builder.Builder, t api.Token) {
	if !b.Quirks() {
		b.CloseP()
	}
	b.Insert(t, api.SpHTML)
	b.Set(builder.MoTable)
}

func startHR(b *builder.Builder, t api.Token) {
	b.CloseP()
	b.Only(t)
}

func startImage(b *builder.Builder, t api.Token) {
	t.Name = "img"
	single(b, t)
}

func startTextarea(b *builder.Builder, t api.Token) {
	raw(b, t)
	b.Skip()
}

func startXmp(b *builder.Builder, t api.Token) {
	b.CloseP()
	b.Rebuild()
	raw(b, t)
}

func startSelect(b *builder.Builder, t api.Token) {
	if inScope(b, "select") {
		b.Stack().Until("select")
		return
	}
	plain(b, t)
}

func startOption(b *builder.Builder, t api.Token) {
	if b.Is("option") {
		b.Stack().Pop()
	}
	plain(b, t)
}

// ruby opens a part of a ruby, in which all that is implied ends, but one name.
func ruby(but string) func(b *builder.Builder, t api.Token) {
	return func(b *builder.Builder, t api.Token) {
		if inScope(b, "ruby") {
			b.Stack().Implied(but)
		}
		b.Insert(t, api.SpHTML)
	}
}

// foreign opens the first element of another space.
func foreign(space int) func(b *builder.Builder, t api.Token) {
	return func(b *builder.Builder, t api.Token) {
		b.Rebuild()
		if b.Insert(t, space) >= 0 && t.Self {
			b.Stack().Pop()
		}
	}
}
