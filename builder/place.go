package builder

import (
	"slices"

	"lazaret/api"
)

// anyScope is no scope's number: it is not ended by any element.
const anyScope = -1

// Current is the current node, or a node that is none.
func (b *Builder) Current() api.Node {
	if b.none() {
		return api.Node{}
	}
	return b.nodes.Node(b.open.Top())
}

// Is tells whether the current node is an HTML element of one of these names.
func (b *Builder) Is(names ...string) bool {
	return !b.none() && isHTML(b.Current(), names...)
}

// isHTML tells whether a node is an HTML element of one of these names.
func isHTML(n api.Node, names ...string) bool {
	return n.Kind == api.NoElement && n.Space == api.SpHTML && slices.Contains(names, n.Name)
}

// Open tells whether an HTML element of that name is open.
func (b *Builder) Open(name string) bool {
	return !b.none() && b.open.Has(anyScope, name)
}

// last is the greatest place in the stack of an HTML element of that name; -1:
// none is open.
func (b *Builder) last(name string) int {
	k := b.open.Len() - 1
	for k >= 0 && !isHTML(b.nodes.Node(b.open.At(k)), name) {
		k--
	}
	return k
}

// Place is where a node is inserted: into a parent, ahead of a kid (-1: at its
// end).
func (b *Builder) Place(target int) (parent, ref int) {
	if b.none() {
		return -1, -1
	}
	if b.foster && isHTML(b.nodes.Node(target), "table", "tbody", "tfoot", "thead", "tr") {
		return b.fosterPlace()
	}
	return b.endOf(target), -1
}

// fosterPlace is where a node is inserted that no table may have.
func (b *Builder) fosterPlace() (parent, ref int) {
	template, table := b.last("template"), b.last("table")
	switch {
	case template > table:
		return b.endOf(b.open.At(template)), -1
	case table < 0:
		return b.endOf(b.open.At(0)), -1
	}
	node := b.open.At(table)
	if p := b.nodes.Node(node).Parent; p >= 0 {
		return p, node
	}
	return b.endOf(b.open.At(table - 1)), -1
}

// endOf is what a node is put into that comes to a target's end.
func (b *Builder) endOf(target int) int {
	if n := b.nodes.Node(target); isHTML(n, "template") {
		return n.Content
	}
	return target
}

// Put puts a node at the place of a target.
func (b *Builder) Put(node, target int) {
	if b.none() {
		return
	}
	parent, ref := b.Place(target)
	if ref >= 0 {
		b.nodes.Before(node, ref)
	} else {
		b.nodes.Append(parent, node)
	}
}

// here is the current node, or the document, if nothing is open.
func (b *Builder) here() int { return max(0, b.open.Top()) }
