package kinds_test

import (
	"slices"
	"strings"
	"testing"

	"lazaret/api"
	"lazaret/kinds"
)

var (
	specialHTML = strings.Fields("address applet area article aside base basefont bgsound blockquote body br button caption center col colgroup dd details dir div dl dt embed fieldset figcaption figure footer form frame frameset h1 h2 h3 h4 h5 h6 head header hgroup hr html iframe img input keygen li link listing main marquee menu meta nav noembed noframes noscript object ol p param plaintext pre script search section select source style summary table tbody td template textarea tfoot th thead title tr track ul wbr xmp")
	specialMath = strings.Fields("annotation-xml mi mn mo ms mtext")
	specialSVG  = strings.Fields("desc foreignobject title")
	formatting  = strings.Fields("a b big code em font i nobr s small strike strong tt u")
	void        = strings.Fields("area base basefont bgsound br col embed frame hr img input keygen link meta param source track wbr")
	implied     = strings.Fields("dd dt li optgroup option p rb rp rt rtc")
	thorough    = append(strings.Fields("caption colgroup tbody td tfoot th thead tr"), implied...)
	normal      = strings.Fields("applet caption html marquee object table td template th")
	headings    = strings.Fields("h1 h2 h3 h4 h5 h6")
	others      = []string{"", " ", "span", "h0", "h7", "H1", "P", "Table", "foreignObject", "svg", "math", "p ", " p", "dd dt", "td tfoot", "h1 h2", "address applet", "script\x00", "a\n", "mglyph", "ruby", "image", "svg title", "spacer", "annotation", "annotation-xml mi", "é", "\xff", "dialog"}
)

// names are all names of all lists, and others.
func names() []string {
	return slices.Concat(specialHTML, specialMath, specialSVG, formatting, void, implied, thorough, normal, headings, others, []string{"ol", "ul", "plaintext", "noembed"})
}

// P13.1: the lists.
func TestLists(t *testing.T) {
	for _, name := range names() {
		for _, x := range []struct {
			what string
			got  bool
			list []string
		}{
			{"special of HTML", kinds.Special(api.SpHTML, name), specialHTML},
			{"special of SVG", kinds.Special(api.SpSVG, name), specialSVG},
			{"special of MathML", kinds.Special(api.SpMath, name), specialMath},
			{"special of -1", kinds.Special(-1, name), nil},
			{"special of 3", kinds.Special(3, name), nil},
			{"special of many", kinds.Special(1<<62, name), nil},
			{"formatting", kinds.Formatting(name), formatting},
			{"void", kinds.Void(name), void},
			{"implied", kinds.Implied(name), implied},
			{"thorough", kinds.Thorough(name), thorough},
			{"heading", kinds.Heading(name), headings},
		} {
			if x.got != slices.Contains(x.list, name) {
				t.Errorf("%s: %q is %v", x.what, name, x.got)
			}
		}
	}
}

// P13.2: what ends scopes.
func TestScope(t *testing.T) {
	html := map[int][]string{
		kinds.ScNormal: normal,
		kinds.ScList:   append([]string{"ol", "ul"}, normal...),
		kinds.ScButton: append([]string{"button"}, normal...),
		kinds.ScTable:  {"html", "table", "template"},
	}
	for _, name := range names() {
		for which := -2; which < 7; which++ {
			if got := kinds.Scope(which, api.SpHTML, name); got != slices.Contains(html[which], name) {
				t.Errorf("Scope(%d, HTML, %q) = %v", which, name, got)
			}
			foreign := which >= kinds.ScNormal && which <= kinds.ScButton
			if got := kinds.Scope(which, api.SpSVG, name); got != (foreign && slices.Contains(specialSVG, name)) {
				t.Errorf("Scope(%d, SVG, %q) = %v", which, name, got)
			}
			if got := kinds.Scope(which, api.SpMath, name); got != (foreign && slices.Contains(specialMath, name)) {
				t.Errorf("Scope(%d, MathML, %q) = %v", which, name, got)
			}
			if kinds.Scope(which, 3, name) || kinds.Scope(which, -1, name) {
				t.Errorf("Scope(%d, no space, %q)", which, name)
			}
		}
	}
	if kinds.ScNormal != 0 || kinds.ScList != 1 || kinds.ScButton != 2 || kinds.ScTable != 3 {
		t.Error("the scopes' numbers")
	}
}

// P13.3: states of the tokenizer.
func TestState(t *testing.T) {
	states := map[string]int{
		"textarea": api.StRCData, "title": api.StRCData, "iframe": api.StRaw, "noembed": api.StRaw, "noframes": api.StRaw, "style": api.StRaw, "xmp": api.StRaw, "script": api.StScript, "plaintext": api.StPlain,
	}
	for _, name := range append(names(), "textarea title", "Script", "noscript") {
		if got := kinds.State(name); got != states[name] {
			t.Errorf("State(%q) = %d", name, got)
		}
	}
}

// P13.4: what follows.
func TestWhatFollows(t *testing.T) {
	for _, name := range names() {
		if kinds.Implied(name) && !kinds.Thorough(name) {
			t.Errorf("%q is implied", name)
		}
		for space := range 3 {
			if kinds.Scope(kinds.ScNormal, space, name) && !(kinds.Scope(kinds.ScList, space, name) && kinds.Scope(kinds.ScButton, space, name)) {
				t.Errorf("%q ends the normal scope alone", name)
			}
			for which := range 4 {
				if kinds.Scope(which, space, name) && !kinds.Special(space, name) {
					t.Errorf("%q ends a scope", name)
				}
			}
		}
		if kinds.Formatting(name) && kinds.Special(api.SpHTML, name) {
			t.Errorf("%q is formatting and special", name)
		}
		if name == "" {
			continue
		}
		if up := strings.ToUpper(name[:1]) + name[1:]; up != name && (kinds.Special(api.SpHTML, up) || kinds.Formatting(up) || kinds.Void(up) || kinds.Thorough(up) || kinds.Heading(up) || kinds.State(up) != api.StData) {
			t.Errorf("%q is in a list", up)
		}
	}
}
