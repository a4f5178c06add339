package builder

import (
	"lazaret/api"
	"lazaret/kinds"
)

// Insert opens an element.
func (b *Builder) Insert(t api.Token, space int) int {
	if b.none() {
		return -1
	}
	if b.open.Len() >= api.MaxDepth {
		b.Fail(api.ErrDepth)
		return -1
	}
	i := b.nodes.Add(api.Node{
		Kind: api.NoElement, Name: t.Name, Space: space,
		Attrs: t.Attrs, Dup: t.Dup, From: t.From, To: t.To,
	})
	b.Put(i, b.here())
	b.open.Push(i)
	return i
}

// Only inserts an HTML element that is not open.
func (b *Builder) Only(t api.Token) int {
	i := b.Insert(t, api.SpHTML)
	if i >= 0 {
		b.open.Pop()
	}
	return i
}

// Imply opens an HTML element for which no tag stands.
func (b *Builder) Imply(name string) int {
	return b.Insert(api.Token{Kind: api.ToStart, Name: name, From: -1, To: -1}, api.SpHTML)
}

// Raw opens an element whose text is raw.
func (b *Builder) Raw(t api.Token, state int) {
	if b.none() {
		return
	}
	b.Insert(t, api.SpHTML)
	b.ask(state, t.Name)
	b.Keep()
	b.Set(MoText)
}

// Chars inserts characters.
func (b *Builder) Chars(s string) {
	if b.none() {
		return
	}
	parent, ref := b.Place(b.here())
	if b.nodes.Node(parent).Kind != api.NoDocument {
		b.nodes.Text(parent, ref, s)
	}
}

// Comment inserts a comment; into: a node (-1: the place).
func (b *Builder) Comment(t api.Token, into int) {
	if b.none() {
		return
	}
	i := b.nodes.Add(api.Node{Kind: api.NoComment, Text: t.Text, From: -1, To: -1})
	if into >= 0 {
		b.nodes.Append(into, i)
	} else {
		b.Put(i, b.here())
	}
}

// Again is the tag of which an element was made.
func Again(n api.Node) api.Token {
	t := api.Token{Kind: api.ToStart, Name: n.Name, Dup: n.Dup, From: n.From, To: n.To}
	t.Attrs = append(t.Attrs, n.Attrs...)
	return t
}

// Rebuild opens formatting elements anew.
func (b *Builder) Rebuild() {
	if b.none() {
		return
	}
	k := b.list.Len()
	for k > 0 && b.closed(k-1) {
		k--
	}
	for ; k < b.list.Len(); k++ {
		node, _ := b.list.At(k)
		i := b.Insert(Again(b.nodes.Node(node)), api.SpHTML)
		if i < 0 {
			return
		}
		b.list.Replace(k, i)
	}
}

// closed tells whether an entry of the list is an element that is not open.
func (b *Builder) closed(k int) bool {
	node, marker := b.list.At(k)
	return !marker && b.open.Index(node) < 0
}

// CloseP closes a paragraph.
func (b *Builder) CloseP() {
	if !b.none() && b.open.Has(kinds.ScButton, "p") {
		b.open.Implied("p")
		b.open.Until("p")
	}
}

// HTML gives the first open element what attributes it lacks.
func (b *Builder) HTML(t api.Token) {
	if !b.none() && !b.Open("template") {
		b.nodes.More(b.open.At(0), t.Attrs)
	}
}
