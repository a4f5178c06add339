package adopt_test

import (
	"slices"
	"strings"
	"testing"

	"lazaret/adopt"
	"lazaret/api"
	"lazaret/arena"
	"lazaret/builder"
)

// grown is a builder that has elements open; those whose names have a + ahead
// are in the list, too, and each has a text, its name.
func grown(names string) *builder.Builder {
	b := builder.New()
	for _, name := range strings.Fields(names) {
		i := b.Imply(strings.TrimPrefix(name, "+"))
		if name[0] == '+' {
			b.Formats().Push(i)
		}
		b.Chars(strings.ToUpper(b.Current().Name))
	}
	return b
}

// show is a node as text: elements with what they have in brackets.
func show(a *arena.Arena, i int) string {
	n := a.Node(i)
	if n.Kind == api.NoText {
		return n.Text
	}
	var kids []string
	for _, k := range n.Kids {
		kids = append(kids, show(a, k))
	}
	return n.Name + "(" + strings.Join(kids, " ") + ")"
}

// open are the names of the open elements.
func open(b *builder.Builder) string {
	var names []string
	for k := range b.Stack().Len() {
		names = append(names, b.Arena().Node(b.Stack().At(k)).Name)
	}
	return strings.Join(names, " ")
}

// list are the names of the list's entries; a * behind those that are open.
func list(b *builder.Builder) string {
	var names []string
	for k := range b.Formats().Len() {
		i, marker := b.Formats().At(k)
		name := b.Arena().Node(i).Name
		if marker {
			name = "|"
		} else if b.Stack().Index(i) >= 0 {
			name += "*"
		}
		names = append(names, name)
	}
	return strings.Join(names, " ")
}

// P18.1: what is done, and told.
func TestRun(t *testing.T) {
	for _, x := range []struct {
		names, name                string
		want                       bool
		wantOpen, wantList, wantIn string
	}{
		{"html body +b +i", "b", true, "html body", "i", "body(BODY b(B i(I)))"},
		{"html body +b +i", "i", true, "html body b", "b*", "body(BODY b(B i(I)))"},
		{"html body +b p", "b", true, "html body p", "", "body(BODY b(B) p(b(P)))"},
		{"html body", "b", false, "html body", "", "body(BODY)"},
		{"html body +b", "i", false, "html body b", "b*", "body(BODY b(B))"},
		{"html body b", "b", true, "html body", "", "body(BODY b(B))"},
		{"html body b i", "b", false, "html body b i", "", "body(BODY b(B i(I)))"},
		{"html body +b p +i", "b", true, "html body p", "i", "body(BODY b(B) p(b(P i(I))))"},
		{"html body +b +i p", "b", true, "html body i p", "i*", "body(BODY b(B i(I)) i(p(b(P))))"},
		{"html body +b u p", "b", true, "html body p", "", "body(BODY b(B u(U)) p(b(P)))"},
		{"html body +a div div", "a", true, "html body div div", "", "body(BODY a(A) div(a(DIV) div(a(DIV))))"},
		{"html body +b td +i", "b", true, "html body b td i", "b* i*", "body(BODY b(B td(TD i(I))))"},
		{"html body +b", "b", true, "html body", "", "body(BODY b(B))"},
		{"html body p +b", "p", false, "html body p b", "b*", "body(BODY p(P b(B)))"},
	} {
		b := grown(x.names)
		if got := adopt.Run(b, x.name); got != x.want {
			t.Errorf("%q: %q: %v", x.names, x.name, got)
		}
		if open(b) != x.wantOpen || list(b) != x.wantList || show(b.Arena(), 2) == "" {
			t.Errorf("%q: %q: open %q, list %q", x.names, x.name, open(b), list(b))
		}
		body := 0
		for body == 0 || b.Arena().Node(body).Name != "body" {
			body++
		}
		if got := show(b.Arena(), body); got != x.wantIn {
			t.Errorf("%q: %q: %s, want %s", x.names, x.name, got, x.wantIn)
		}
	}
}

// P18.1 (1): one that is in the list, but not open.
func TestNotOpen(t *testing.T) {
	b := grown("html body")
	i := b.Only(api.Token{Name: "b"})
	b.Formats().Push(i)
	if !adopt.Run(b, "b") || b.Formats().Len() != 0 || open(b) != "html body" {
		t.Errorf("open %q, list %q", open(b), list(b))
	}
	b = grown("html body +b")
	b.Formats().Mark()
	b.Stack().Push(b.Only(api.Token{Name: "i"}))
	if adopt.Run(b, "b") || list(b) != "b* |" {
		t.Errorf("ahead of a marker: %q", list(b))
	}
}

// P18.1: the current node is an element of that name, but of SVG.
func TestOtherSpace(t *testing.T) {
	b := grown("html body +b")
	b.Insert(api.Token{Name: "b"}, api.SpSVG)
	if !adopt.Run(b, "b") || open(b) != "html body" {
		t.Errorf("open %q", open(b))
	}
	b = grown("html body")
	b.Insert(api.Token{Name: "b"}, api.SpSVG)
	if adopt.Run(b, "b") || open(b) != "html body b" {
		t.Errorf("open %q", open(b))
	}
}

// P18.1 (4): more than three elements between, some in the list.
func TestMany(t *testing.T) {
	b := grown("html body +a +b +i +u +s p")
	if !adopt.Run(b, "a") {
		t.Error("false")
	}
	if open(b) != "html body i u s p" || list(b) != "i* u* s*" {
		t.Errorf("open %q, list %q", open(b), list(b))
	}
	if got, want := show(b.Arena(), 3), "body(BODY a(A b(B i(I u(U s(S))))) i(u(s(p(a(P))))))"; got != want {
		t.Errorf("%s, want %s", got, want)
	}
	b = grown("html body +b +a +i +u +s em +tt p")
	b.Formats().Remove(b.Formats().Last("b"))
	b.Formats().Insert(4, b.Stack().At(2))
	if got := list(b); got != "a* i* u* s* b* tt*" {
		t.Fatalf("list %q", got)
	}
	adopt.Run(b, "b")
	if open(b) != "html body s tt p" {
		t.Errorf("open %q", open(b))
	}
	if got := list(b); got != "s* tt*" {
		t.Errorf("list %q", got)
	}
}

// P18.1 (4, 6): where the new element stands in the list.
func TestMark(t *testing.T) {
	b := grown("html body +b +i p") // the current block, with i between
	b.Formats().Push(b.Only(api.Token{Name: "u"}))
	adopt.Run(b, "b")
	if got := list(b); got != "i* u" {
		t.Errorf("behind the run: %q", got)
	}
	b = builder.New()
	b.Imply("html")
	b.Imply("body")
	first, second := b.Imply("b"), b.Imply("i")
	b.Formats().Push(second)
	b.Formats().Push(first)
	b.Imply("p")
	b.Imply("div")
	adopt.Run(b, "b")
	if got := list(b); got != "i*" || open(b) != "html body i p div" {
		t.Errorf("list %q, open %q", got, open(b))
	}
}

// P18.1: up to eight times.
func TestEight(t *testing.T) {
	for n, left := range map[int]string{7: "", 8: "a*", 9: "a*", 12: "a*"} {
		b := grown("html body +a" + strings.Repeat(" div", n))
		if !adopt.Run(b, "a") {
			t.Errorf("%d blocks: false", n)
		}
		if list(b) != left {
			t.Errorf("%d blocks: list %q", n, list(b))
		}
		names := strings.Fields(open(b))
		if place := slices.Index(names, "a"); left != "" && place != 2+8 {
			t.Errorf("%d blocks: open %q", n, names)
		}
	}
}

// P18.1 (4, 6): where new elements stand, in the list and in the stack, when it
// was done eight times, and there are more blocks.
func TestPlaces(t *testing.T) {
	const divs = " div div div div div div div div"
	for names, want := range map[string][2]string{
		"html body +b":                         {"html body" + divs + " b div", "b* tt"},
		"html body +b +i":                      {"html body i" + divs + " b div", "i* b* tt"},
		"html body +b +i +u +s":                {"html body i u s" + divs + " b div", "i* u* s* b* tt"},
		"html body +b +i +u +s +em":            {"html body u s em" + divs + " b div", "u* s* em* b* tt"},
		"html body +b +i +u +s +em +big +code": {"html body em big code" + divs + " b div", "em* big* code* b* tt"},
		"html body +b span +i":                 {"html body i" + divs + " b div", "i* b* tt"},
		"html body +b +i span":                 {"html body i" + divs + " b div", "i* b* tt"},
	} {
		b := grown(names + divs + " div")
		b.Formats().Push(b.Only(api.Token{Name: "tt"}))
		if !adopt.Run(b, "b") || open(b) != want[0] || list(b) != want[1] {
			t.Errorf("%q: open %q, list %q", names, open(b), list(b))
		}
	}
}

// P18.1 (5): what is put among tables is fostered.
func TestFoster(t *testing.T) {
	b := grown("html body table +b p") // 1, 3, 5, 7, 9, each with a text
	b.Foster(true)
	adopt.Run(b, "b")
	if got, want := show(b.Arena(), 3), "body(BODY p(b(P)) table(TABLE b(B)))"; got != want {
		t.Errorf("%s, want %s", got, want)
	}
	b = grown("+b p")
	if !adopt.Run(b, "b") || open(b) != "p" || show(b.Arena(), 0) != "(b(B p(b(P))))" {
		t.Errorf("the first one: open %q, %s", open(b), show(b.Arena(), 0))
	}
}

// P18.1: a new element has the tag's attributes, and where it stands.
func TestCopies(t *testing.T) {
	b := grown("html body")
	tag := api.Token{Kind: api.ToStart, Name: "b", Attrs: []api.Attr{{Name: "x", Value: "1"}}, Dup: true, From: 4, To: 9}
	i := b.Insert(tag, api.SpHTML)
	b.Formats().Push(i)
	b.Imply("p")
	adopt.Run(b, "b")
	n := b.Arena().Node(b.Arena().Len() - 1)
	if n.Name != "b" || !n.Dup || n.From != 4 || n.To != 9 || len(n.Attrs) != 1 || n.Space != api.SpHTML || n.Kind != api.NoElement {
		t.Errorf("%+v", n)
	}
}

// P18.2: Other.
func TestOther(t *testing.T) {
	for _, x := range []struct{ names, name, want string }{
		{"html body b i u", "b", "html body"}, {"html body b i", "i", "html body b"}, {"html body b p i", "b", "html body b p i"}, {"html body p li dd", "p", "html body p li dd"}, {"html body p li", "li", "html body p"}, {"html body span rp option", "span", "html body"}, {"html body span rt b rt", "rt", "html body span rt b"},
		{"html body b", "x", "html body b"}, {"html body", "html", "html body"}, {"html body p", "p", "html body"}, {"span", "span", ""}, {"", "b", ""}, {"html body b", "B", "html body b"},
	} {
		b := grown(x.names)
		adopt.Other(b, x.name)
		if got := open(b); got != x.want {
			t.Errorf("%q: %q: %q, want %q", x.names, x.name, got, x.want)
		}
	}
	b := grown("html body b")
	b.Insert(api.Token{Name: "b"}, api.SpSVG)
	if adopt.Other(b, "b"); open(b) != "html body" {
		t.Errorf("an element of SVG is passed over: %q", open(b))
	}
	b = grown("html body b")
	b.Insert(api.Token{Name: "desc"}, api.SpSVG)
	if adopt.Other(b, "b"); open(b) != "html body b desc" {
		t.Errorf("a special element of SVG: %q", open(b))
	}
}

// What is done with builders that are none.
func TestNone(t *testing.T) {
	for _, b := range []*builder.Builder{nil, {}} {
		if adopt.Run(b, "b") {
			t.Error("true")
		}
		adopt.Other(b, "b")
	}
}

// P18.3: what follows.
func TestWhatFollows(t *testing.T) {
	names := []string{"+b", "+i", "u", "p", "div", "+a", "td", "+u", "table"}
	seed := uint32(18)
	next := func(n int) int {
		seed = seed*1664525 + 1013904223
		return int(seed>>8) % n
	}
	for range 4000 {
		line := "html body"
		for range next(10) {
			line += " " + names[next(len(names))]
		}
		b := grown(line)
		was := b.Stack().Len()
		adopt.Run(b, strings.TrimPrefix(names[next(len(names))], "+"))
		if b.Stack().Len() > was {
			t.Fatalf("%q: %d open, %d ahead", line, b.Stack().Len(), was)
		}
		texts := 0
		whole := show(b.Arena(), 0)
		for i := range b.Arena().Len() {
			if n := b.Arena().Node(i); n.Kind == api.NoText {
				texts++
				if !strings.Contains(whole, n.Text) {
					t.Fatalf("%q: %q is lost: %s", line, n.Text, whole)
				}
			}
		}
		shown := 0
		for _, name := range []string{"HTML", "BODY", "B", "I", "U", "P", "DIV", "A", "TD", "TABLE"} {
			for _, part := range strings.FieldsFunc(whole, func(c rune) bool { return c == '(' || c == ')' || c == ' ' }) {
				if part == name {
					shown++
				}
			}
		}
		if shown != texts {
			t.Fatalf("%q: %d of %d texts: %s", line, shown, texts, whole)
		}
	}
}
