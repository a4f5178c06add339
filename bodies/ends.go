package bodies

import (
	"lazaret/adopt"
	"lazaret/api"
	"lazaret/builder"
	"lazaret/kinds"
)

// ends does an end tag; whether it is to be done again.
func ends(b *builder.Builder, t api.Token) bool {
	if r, ok := endRules()[t.Name]; ok {
		r.do(b, t)
	} else {
		adopt.Other(b, t.Name)
	}
	return t.Name == "html" && b.Mode() == builder.MoAfterBody
}

// endRules are those of end tags; all others are any other ones.
func endRules() map[string]rule {
	rules := map[string]rule{
		"br":       {endBR},
		"form":     {endForm},
		"li":       {endItem(kinds.ScList)},
		"p":        {endP},
		"template": {head},
	}
	give(rules, endBody, "body", "html")
	give(rules, endBlock,
		"address", "article", "aside", "blockquote", "button", "center", "details", "dialog", "dir", "div", "dl",
		"fieldset", "figcaption", "figure", "footer", "header", "hgroup", "listing", "main", "menu", "nav", "ol",
		"pre", "search", "section", "select", "summary", "ul")
	give(rules, endItem(kinds.ScNormal), "dd", "dt")
	give(rules, endHeading("h1", "h2", "h3", "h4", "h5", "h6"), "h1", "h2", "h3", "h4", "h5", "h6")
	give(rules, func(b *builder.Builder, t api.Token) { endFormatting(b, t.Name) },
		"a", "b", "big", "code", "em", "font", "i", "nobr", "s", "small", "strike", "strong", "tt", "u")
	give(rules, endMarked, "applet", "marquee", "object")
	return rules
}

func endBody(b *builder.Builder, t api.Token) {
	if inScope(b, "body") {
		b.Set(builder.MoAfterBody)
	}
}

func endBlock(b *builder.Builder, t api.Token) { shut(b, t.Name) }

func endForm(b *builder.Builder, t api.Token) {
	if b.Open("template") {
		shut(b, t.Name)
		return
	}
	form := b.Form()
	b.SetForm(-1)
	if form >= 0 && b.Stack().HasNode(kinds.ScNormal, form) {
		b.Stack().Implied("")
		b.Stack().Remove(form)
	}
}

func endP(b *builder.Builder, t api.Token) {
	if !b.Stack().Has(kinds.ScButton, "p") {
		b.Imply("p")
	}
	b.CloseP()
}

// endItem shuts an item of a list, if one is in a scope.
func endItem(scope int) func(b *builder.Builder, t api.Token) {
	return func(b *builder.Builder, t api.Token) {
		if b.Stack().Has(scope, t.Name) {
			b.Stack().Implied(t.Name)
			b.Stack().Until(t.Name)
		}
	}
}

// endHeading shuts an element of one of these names, whichever the tag has.
func endHeading(names ...string) func(b *builder.Builder, t api.Token) {
	return func(b *builder.Builder, t api.Token) {
		if inScope(b, names...) {
			b.Stack().Implied("")
			b.Stack().Until(names...)
		}
	}
}

func endMarked(b *builder.Builder, t api.Token) {
	if inScope(b, t.Name) {
		shut(b, t.Name)
		b.Formats().Clear()
	}
}

func endBR(b *builder.Builder, t api.Token) {
	single(b, api.Token{Kind: api.ToStart, Name: "br", From: -1, To: -1})
}
