package builder

import "lazaret/api"

// Reset finds the mode by what is open.
func (b *Builder) Reset() {
	if b.none() {
		return
	}
	for k := b.open.Len() - 1; k >= 0; k-- {
		n := b.nodes.Node(b.open.At(k))
		if n.Space != api.SpHTML {
			continue
		}
		if mode, ok := b.modeOf(n.Name, k == 0); ok {
			b.mode = mode
			return
		}
	}
	b.mode = MoBody
}

// modeOf is the mode that an open HTML element says.
func (b *Builder) modeOf(name string, first bool) (mode int, ok bool) {
	switch name {
	case "td", "th":
		return MoCell, !first
	case "tr":
		return MoRow, true
	case "tbody", "thead", "tfoot":
		return MoTableBody, true
	case "caption":
		return MoCaption, true
	case "colgroup":
		return MoColumns, true
	case "table":
		return MoTable, true
	case "template":
		if n := len(b.modes); n > 0 {
			return b.modes[n-1], true
		}
	case "head":
		return MoHead, !first
	case "body":
		return MoBody, true
	case "html":
		if b.head < 0 {
			return MoBeforeHead, true
		}
		return MoAfterHead, true
	}
	return 0, false
}
