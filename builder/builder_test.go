package builder_test

import (
	"reflect"
	"slices"
	"testing"

	"lazaret/api"
	"lazaret/builder"
)

func start(name string, attrs ...string) api.Token {
	t := api.Token{Kind: api.ToStart, Name: name, From: 3, To: 9}
	for i := 0; i < len(attrs); i += 2 {
		t.Attrs = append(t.Attrs, api.Attr{Name: attrs[i], Value: attrs[i+1]})
	}
	return t
}

// grown is a builder that has these elements open, 1, 2, 3 ..
func grown(names ...string) *builder.Builder {
	b := builder.New()
	for _, name := range names {
		b.Imply(name)
	}
	return b
}

func open(b *builder.Builder) []int {
	var list []int
	for k := range b.Stack().Len() {
		list = append(list, b.Stack().At(k))
	}
	return list
}

func checkInts(t *testing.T, what string, got, want []int) {
	t.Helper()
	if !slices.Equal(got, want) {
		t.Errorf("%s: %v, want %v", what, got, want)
	}
}

// P17.1: what is new.
func TestNew(t *testing.T) {
	b := builder.New()
	if b.Mode() != builder.MoInitial || b.Back() != 0 || len(b.Modes()) != 0 || b.Head() != -1 || b.Form() != -1 || b.Quirks() || b.Pending() != "" || b.Skips() || b.Err() != api.OK {
		t.Error("a new builder")
	}
	if b.Arena().Len() != 1 || b.Stack().Len() != 0 || b.Formats().Len() != 0 || b.Arena() != b.Arena() || b.Stack() != b.Stack() || b.Formats() != b.Formats() {
		t.Error("a new builder's parts")
	}
	if state, name, ok := b.Ask(); state != 0 || name != "" || ok {
		t.Error("a new builder asks")
	}
	i := b.Imply("p")
	if b.Stack().Push(i) != api.OK || b.Formats().Push(i) != api.OK || b.Arena().Len() != 2 {
		t.Error("the stack and the list are not over the arena")
	}
	modes := []int{builder.MoInitial, builder.MoBeforeHTML, builder.MoBeforeHead, builder.MoHead, builder.MoNoscript, builder.MoAfterHead, builder.MoBody, builder.MoText, builder.MoTable, builder.MoTableText, builder.MoCaption, builder.MoColumns, builder.MoTableBody, builder.MoRow, builder.MoCell, builder.MoTemplate, builder.MoAfterBody, builder.MoAfterAfter}
	for i, mode := range modes {
		if mode != i {
			t.Errorf("mode %d is %d", i, mode)
		}
	}
}

// P17.1: what is kept.
func TestKept(t *testing.T) {
	b := builder.New()
	b.Set(builder.MoRow)
	if b.Mode() != builder.MoRow || b.Back() != 0 {
		t.Error("Set")
	}
	b.Keep()
	b.Set(builder.MoText)
	if b.Back() != builder.MoRow || b.Mode() != builder.MoText {
		t.Error("Keep")
	}
	b.Pop()
	b.Push(3)
	b.Push(7)
	b.Push(7)
	checkInts(t, "modes", b.Modes(), []int{3, 7, 7})
	b.Modes()[0] = 9
	b.Pop()
	b.Pop()
	checkInts(t, "modes", b.Modes(), []int{3})
	b.Pop()
	b.Pop()
	checkInts(t, "modes", b.Modes(), nil)
	b.SetHead(4)
	b.SetForm(5)
	b.SetQuirks(true)
	b.SetPending("x ")
	if b.Head() != 4 || b.Form() != 5 || !b.Quirks() || b.Pending() != "x " {
		t.Error("what was set")
	}
	b.SetHead(-1)
	b.SetForm(-1)
	b.SetQuirks(false)
	b.SetPending("")
	if b.Head() != -1 || b.Form() != -1 || b.Quirks() || b.Pending() != "" {
		t.Error("what was set last")
	}
	b.Skip()
	b.Skip()
	if !b.Skips() || b.Skips() {
		t.Error("Skip")
	}
	b.Fail(api.OK)
	if b.Err() != api.OK {
		t.Error("no error")
	}
	b.Fail(api.ErrDepth)
	b.Fail(api.ErrLong)
	b.Fail(api.OK)
	if b.Err() != api.ErrDepth || b.Err() != api.ErrDepth {
		t.Error("the first error")
	}
}

// P17.2: Current, Is, Open.
func TestCurrent(t *testing.T) {
	b := builder.New()
	if !reflect.DeepEqual(b.Current(), api.Node{}) || b.Is("") || b.Is() || b.Open("html") || b.Open("") {
		t.Error("nothing is open")
	}
	b = grown("html", "body")
	b.Insert(start("body", "a", "b"), api.SpSVG)
	want := api.Node{Kind: api.NoElement, Name: "body", Space: api.SpSVG, Attrs: []api.Attr{{Name: "a", Value: "b"}}, Parent: 2, From: 3, To: 9}
	if !reflect.DeepEqual(b.Current(), want) {
		t.Errorf("current: %+v", b.Current())
	}
	if b.Is("body") || !b.Open("body") || !b.Open("html") || b.Open("p") || b.Open("HTML") {
		t.Error("an element of SVG")
	}
	b.Stack().Pop()
	if !b.Is("p", "body") || !b.Is("body") || b.Is("p") || b.Is() || b.Is("Body") {
		t.Error("Is")
	}
	b = grown("html", "td", "p")
	if !b.Open("html") {
		t.Error("Open behind the end of a scope")
	}
}

func checkPlace(t *testing.T, what string, b *builder.Builder, target, parent, ref int) {
	t.Helper()
	if p, r := b.Place(target); p != parent || r != ref {
		t.Errorf("%s: %d, %d; want %d, %d", what, p, r, parent, ref)
	}
}

// P17.2: places.
func TestPlace(t *testing.T) {
	b := grown("html", "body", "table", "tbody", "tr")
	checkPlace(t, "not fostered", b, 3, 3, -1)
	checkPlace(t, "the document", b, 0, 0, -1)
	b.Foster(true)
	for _, target := range []int{3, 4, 5} {
		checkPlace(t, "fostered", b, target, 2, 3)
	}
	checkPlace(t, "no table", b, 2, 2, -1)
	b.Arena().Detach(3)
	checkPlace(t, "a table without a parent", b, 4, 2, -1)
	b.Foster(false)
	checkPlace(t, "no more", b, 4, 4, -1)
	for _, name := range []string{"tfoot", "thead"} {
		b = grown("html", "table", name)
		b.Foster(true)
		checkPlace(t, name, b, 3, 1, 2)
	}
	for _, name := range []string{"td", "caption", "colgroup", "th", "p"} {
		b = grown("html", "table", name)
		b.Foster(true)
		checkPlace(t, name, b, 3, 3, -1)
	}
	b = grown("html", "table")
	i := b.Insert(start("tr"), api.SpSVG)
	b.Foster(true)
	checkPlace(t, "a tr of SVG", b, i, i, -1)
}

// P17.2: templates among open tables.
func TestPlaceTemplates(t *testing.T) {
	b := grown("html", "template")
	checkPlace(t, "a template", b, 2, 3, -1)
	b = grown("html", "template", "tr") // 1, 2 (3), 4
	b.Foster(true)
	checkPlace(t, "a template without a table", b, 4, 3, -1)
	b = grown("html", "table", "template", "tr") // 1, 2, 3 (4), 5
	b.Foster(true)
	checkPlace(t, "a template behind a table", b, 5, 4, -1)
	b = grown("html", "template", "table", "tr") // 1, 2 (3), 4, 5
	b.Foster(true)
	checkPlace(t, "a template ahead of a table", b, 5, 3, 4)
	b.Arena().Detach(4)
	checkPlace(t, "the same, without a parent", b, 5, 3, -1)
	b = grown("html", "tr")
	b.Foster(true)
	checkPlace(t, "no table", b, 2, 1, -1)
	b = grown("template", "tr") // 1 (2), 3
	b.Stack().Pop()
	b.Stack().Pop()
	b.Foster(true)
	b.Place(3) // nothing is open: it only has to come to an end
	b = grown("table")
	b.Foster(true)
	checkPlace(t, "in the document", b, 1, 0, 1)
	b.Arena().Detach(1)
	b.Place(1) // nothing stands ahead of it: likewise
	b = grown("html")
	i := b.Insert(start("template"), api.SpSVG)
	checkPlace(t, "a template of SVG", b, i, i, -1)
}

// P17.2: Put.
func TestPut(t *testing.T) {
	b := grown("html", "body", "table", "tr")
	p := b.Arena().Add(api.Node{Kind: api.NoElement, Name: "p"})
	b.Put(p, 4)
	checkInts(t, "kids", b.Arena().Node(4).Kids, []int{p})
	b.Foster(true)
	b.Put(p, 4)
	checkInts(t, "kids of body", b.Arena().Node(2).Kids, []int{p, 3})
	b.Put(2, 3)
	b.Put(p, 99)
	b.Put(99, 2)
	b.Put(0, 2)
	b.Put(2, p)
	checkInts(t, "kids of body", b.Arena().Node(2).Kids, []int{p, 3})
	checkInts(t, "kids of html", b.Arena().Node(1).Kids, []int{2})
	template := b.Imply("template")
	b.Put(p, template)
	if b.Arena().Node(p).Parent != b.Arena().Node(template).Content {
		t.Error("not in the content")
	}
}

// P17.3: Insert, Only, Imply.
func TestInsert(t *testing.T) {
	b := builder.New()
	tag := start("html", "a", "1")
	tag.Dup = true
	if i := b.Insert(tag, api.SpMath); i != 1 {
		t.Errorf("Insert: %d", i)
	}
	want := api.Node{Kind: api.NoElement, Name: "html", Space: api.SpMath, Attrs: tag.Attrs, Dup: true, Parent: 0, From: 3, To: 9}
	if got := b.Arena().Node(1); !reflect.DeepEqual(got, want) {
		t.Errorf("Insert: %+v", got)
	}
	if i := b.Only(tag); i != 2 {
		t.Errorf("Only: %d", i)
	}
	want.Space, want.Parent = api.SpHTML, 1
	if got := b.Arena().Node(2); !reflect.DeepEqual(got, want) {
		t.Errorf("Only: %+v", got)
	}
	if i := b.Imply("p"); i != 3 {
		t.Errorf("Imply: %d", i)
	}
	if got := b.Arena().Node(3); !reflect.DeepEqual(got, api.Node{Kind: api.NoElement, Name: "p", Parent: 1, From: -1, To: -1}) {
		t.Errorf("Imply: %+v", got)
	}
	checkInts(t, "open", open(b), []int{1, 3})
	checkInts(t, "kids", b.Arena().Node(1).Kids, []int{2, 3})
	b = grown("html", "body", "table")
	b.Foster(true)
	b.Only(start("p"))
	checkInts(t, "fostered", b.Arena().Node(2).Kids, []int{4, 3})
}

// P17.3: at most 512 elements.
func TestDepth(t *testing.T) {
	b := builder.New()
	for range api.MaxDepth {
		b.Imply("p")
	}
	if b.Err() != api.OK || b.Stack().Len() != api.MaxDepth {
		t.Errorf("%d: %d", b.Stack().Len(), b.Err())
	}
	was := b.Arena().Len()
	if b.Only(start("p")) != -1 || b.Err() != api.ErrDepth || b.Stack().Len() != api.MaxDepth {
		t.Error("Only")
	}
	if b.Insert(start("p"), api.SpHTML) != -1 || b.Imply("p") != -1 || b.Arena().Len() != was {
		t.Error("Insert")
	}
	b = builder.New()
	for range api.MaxDepth {
		b.Imply("p")
	}
	b.Stack().Pop()
	if b.Only(start("p")) < 0 || b.Err() != api.OK || b.Stack().Len() != api.MaxDepth-1 {
		t.Error("one less")
	}
}

// P17.3: Raw, Plain, Ask.
func TestRaw(t *testing.T) {
	b := grown("html", "head")
	b.Set(builder.MoHead)
	b.Raw(start("title", "a", "1"), api.StRCData)
	if b.Mode() != builder.MoText || b.Back() != builder.MoHead || !b.Is("title") || len(b.Current().Attrs) != 1 {
		t.Error("Raw")
	}
	if state, name, ok := b.Ask(); state != api.StRCData || name != "title" || !ok {
		t.Errorf("Ask: %d, %q, %v", state, name, ok)
	}
	if state, name, ok := b.Ask(); state != 0 || name != "" || ok {
		t.Error("Ask twice")
	}
	b.Raw(start("x"), api.StRaw)
	b.Plain()
	if state, name, ok := b.Ask(); state != api.StPlain || name != "" || !ok {
		t.Errorf("Ask of the last: %d, %q, %v", state, name, ok)
	}
}

// P17.4: Chars.
func TestChars(t *testing.T) {
	b := builder.New()
	b.Chars("x")
	if b.Arena().Len() != 1 {
		t.Error("nothing is open")
	}
	b = grown("html", "body", "table")
	b.Chars("x")
	b.Chars("y")
	b.Foster(true)
	b.Chars("z")
	b.Chars("")
	if n := b.Arena().Node(4); n.Text != "xy" || n.Parent != 3 || n.From != -1 {
		t.Errorf("%+v", n)
	}
	checkInts(t, "kids", b.Arena().Node(2).Kids, []int{5, 3})
	b = grown("table")
	b.Foster(true)
	b.Chars("x")
	if b.Arena().Len() != 2 {
		t.Error("in the document")
	}
	b = grown("html", "template")
	b.Chars("x")
	checkInts(t, "kids of the content", b.Arena().Node(3).Kids, []int{4})
}

// P17.4: Comment.
func TestComment(t *testing.T) {
	b := builder.New()
	c := api.Token{Kind: api.ToComment, Text: "c", From: 4, To: 7}
	b.Comment(c, -1)
	if got := b.Arena().Node(1); !reflect.DeepEqual(got, api.Node{Kind: api.NoComment, Text: "c", Parent: 0, From: -1, To: -1}) {
		t.Errorf("%+v", got)
	}
	b = grown("html", "body", "table", "template") // 1, 2, 3, 4 (5)
	b.Comment(c, -1)
	b.Comment(c, 4)
	b.Comment(c, 0)
	checkInts(t, "content", b.Arena().Node(5).Kids, []int{6})
	checkInts(t, "template", b.Arena().Node(4).Kids, []int{7})
	checkInts(t, "document", b.Arena().Node(0).Kids, []int{1, 8})
	b.Stack().Pop()
	b.Foster(true)
	b.Comment(c, -1)
	b.Comment(c, 3)
	checkInts(t, "fostered", b.Arena().Node(2).Kids, []int{9, 3})
	checkInts(t, "not fostered", b.Arena().Node(3).Kids, []int{4, 10})
}

// P17.5: Rebuild, and Again.
func TestRebuild(t *testing.T) {
	b := grown("html", "body", "b")
	b.Formats().Push(3)
	b.Rebuild()
	checkInts(t, "open", open(b), []int{1, 2, 3})
	b.Stack().Pop()
	b.Rebuild()
	checkInts(t, "open", open(b), []int{1, 2, 4})
	if i, _ := b.Formats().At(0); i != 4 {
		t.Errorf("in the list: %d", i)
	}
	b = grown("b")
	b.Formats().Push(1)
	b.Rebuild()
	checkInts(t, "the first one is open", open(b), []int{1})
	b = grown("html", "body")
	tag := start("i", "x", "1")
	tag.Dup = true
	for _, x := range []api.Token{start("a"), tag, start("u")} {
		b.Formats().Push(b.Only(x)) // 3, 4, 5
	}
	b.Stack().Push(3)
	b.Rebuild()
	checkInts(t, "open", open(b), []int{1, 2, 3, 6, 7})
	want := api.Node{Kind: api.NoElement, Name: "i", Attrs: tag.Attrs, Dup: true, Parent: 3, Kids: []int{7}, From: 3, To: 9}
	if got := b.Arena().Node(6); !reflect.DeepEqual(got, want) || b.Arena().Node(7).Name != "u" {
		t.Errorf("%+v", got)
	}
	for k, want := range []int{3, 6, 7} {
		if i, _ := b.Formats().At(k); i != want {
			t.Errorf("in the list at %d: %d", k, i)
		}
	}
	b.Stack().Pop()
	b.Stack().Pop()
	b.Formats().Mark()
	b.Rebuild()
	checkInts(t, "behind a marker", open(b), []int{1, 2, 3})
	b.Formats().Push(b.Only(start("s")))
	b.Rebuild()
	checkInts(t, "up to a marker", open(b), []int{1, 2, 3, 9})
}

// P17.5: Rebuild ends where an element can't be inserted.
func TestRebuildDepth(t *testing.T) {
	b := builder.New()
	for range api.MaxDepth - 1 {
		b.Imply("p")
	}
	first, second := b.Only(start("a")), b.Only(start("b"))
	b.Formats().Push(first)
	b.Formats().Push(second)
	b.Rebuild()
	if i, _ := b.Formats().At(1); i != second || b.Stack().Len() != api.MaxDepth || b.Err() != api.ErrDepth {
		t.Errorf("%d, %d open, %d", i, b.Stack().Len(), b.Err())
	}
}

// P17.5: Again.
func TestAgain(t *testing.T) {
	n := api.Node{Kind: api.NoElement, Name: "p", Text: "t", Space: api.SpSVG, Attrs: []api.Attr{{Name: "a", Value: "1"}}, Dup: true, Parent: 4, Content: 5, Kids: []int{6}, From: 1, To: 2}
	got := builder.Again(n)
	if !reflect.DeepEqual(got, api.Token{Kind: api.ToStart, Name: "p", Attrs: n.Attrs, Dup: true, From: 1, To: 2}) {
		t.Errorf("%+v", got)
	}
	got.Attrs[0].Value = "2"
	if n.Attrs[0].Value != "1" {
		t.Error("shared")
	}
}

// P17.6: CloseP, and HTML.
func TestClose(t *testing.T) {
	for _, x := range []struct {
		names []string
		want  []int
	}{
		{[]string{"html", "p", "b", "li"}, []int{1}}, {[]string{"html", "p"}, []int{1}}, {[]string{"html", "p", "button", "b"}, []int{1, 2, 3, 4}}, {[]string{"html", "p", "td", "li"}, []int{1, 2, 3, 4}}, {[]string{"html", "li"}, []int{1, 2}}, {[]string{"html", "p", "p", "dd"}, []int{1, 2}}, {nil, nil},
	} {
		b := grown(x.names...)
		b.CloseP()
		checkInts(t, "CloseP", open(b), x.want)
	}
	b := builder.New()
	b.HTML(start("html", "a", "1"))
	b.Insert(start("html", "a", "1"), api.SpHTML)
	b.Imply("body")
	b.HTML(start("html", "a", "2", "b", "3"))
	want := []api.Attr{{Name: "a", Value: "1"}, {Name: "b", Value: "3"}}
	if got := b.Arena().Node(1).Attrs; !reflect.DeepEqual(got, want) || len(b.Arena().Node(2).Attrs) > 0 {
		t.Errorf("HTML: %v", got)
	}
	b.Imply("template")
	b.HTML(start("html", "c", "4"))
	if got := b.Arena().Node(1).Attrs; !reflect.DeepEqual(got, want) {
		t.Errorf("HTML in a template: %v", got)
	}
}

// P17.6: Reset.
func TestReset(t *testing.T) {
	for _, x := range []struct {
		mode  int
		names []string
	}{
		{builder.MoCell, []string{"html", "td"}}, {builder.MoCell, []string{"html", "th", "p"}}, {builder.MoBody, []string{"td"}}, {builder.MoBody, []string{"th", "p"}}, {builder.MoRow, []string{"html", "td", "tr"}}, {builder.MoRow, []string{"tr", "b"}},
		{builder.MoTableBody, []string{"html", "tbody"}}, {builder.MoTableBody, []string{"thead"}}, {builder.MoTableBody, []string{"tfoot"}}, {builder.MoCaption, []string{"html", "caption", "p"}}, {builder.MoColumns, []string{"html", "colgroup"}}, {builder.MoTable, []string{"html", "body", "table"}},
		{builder.MoBody, []string{"html", "body", "template"}}, {builder.MoHead, []string{"html", "head"}}, {builder.MoBody, []string{"head"}}, {builder.MoBody, []string{"html", "head", "body", "p"}}, {builder.MoBeforeHead, []string{"html", "p"}}, {builder.MoBody, nil}, {builder.MoBody, []string{"p", "b"}},
	} {
		b := grown(x.names...)
		b.Set(builder.MoText)
		b.Reset()
		if b.Mode() != x.mode {
			t.Errorf("%q: %d, want %d", x.names, b.Mode(), x.mode)
		}
	}
	b := grown("html", "body", "template")
	b.Push(builder.MoTemplate)
	b.Push(builder.MoRow)
	if b.Reset(); b.Mode() != builder.MoRow {
		t.Errorf("template modes: %d", b.Mode())
	}
	b = grown("html", "template")
	b.Push(builder.MoCell)
	if b.Reset(); b.Mode() != builder.MoCell {
		t.Errorf("one template mode: %d", b.Mode())
	}
	b = grown("html")
	b.SetHead(0)
	if b.Reset(); b.Mode() != builder.MoAfterHead {
		t.Errorf("with a head: %d", b.Mode())
	}
	b = grown("html", "body", "table")
	b.Insert(start("tr"), api.SpSVG)
	if b.Reset(); b.Mode() != builder.MoTable {
		t.Errorf("a tr of SVG: %d", b.Mode())
	}
}

// What builders that are none tell.
func TestNone(t *testing.T) {
	for _, b := range []*builder.Builder{nil, {}} {
		b.Set(4)
		b.Keep()
		b.Push(1)
		b.Pop()
		b.SetHead(1)
		b.SetForm(1)
		b.SetQuirks(true)
		b.Foster(true)
		b.SetPending("x")
		b.Skip()
		b.Fail(api.ErrLong)
		b.Put(0, 0)
		b.Raw(start("x"), 1)
		b.Chars("x")
		b.Comment(start("x"), 0)
		b.Plain()
		b.Rebuild()
		b.CloseP()
		b.Reset()
		b.HTML(start("x"))
		if b.Arena() != nil || b.Stack() != nil || b.Formats() != nil || b.Mode() != 0 || b.Back() != 0 || b.Modes() != nil || b.Quirks() || b.Pending() != "" || b.Skips() {
			t.Error("none tells something")
		}
		if b.Err() != api.ErrNil || b.Head() != -1 || b.Form() != -1 || b.Insert(start("x"), 0) != -1 || b.Only(start("x")) != -1 || b.Imply("x") != -1 {
			t.Error("none tells a node")
		}
		if p, r := b.Place(0); p != -1 || r != -1 || !reflect.DeepEqual(b.Current(), api.Node{}) || b.Is("") || b.Open("") {
			t.Error("none has a place")
		}
		if state, name, ok := b.Ask(); state != 0 || name != "" || ok {
			t.Error("none asks")
		}
	}
}
