package tables

import (
	"lazaret/api"
	"lazaret/bodies"
	"lazaret/builder"
	"lazaret/heads"
)

// inCaption does a token in MoCaption.
func inCaption(b *builder.Builder, t api.Token) bool {
	switch {
	case ends(t, "caption", "table"),
		starts(t, "caption", "col", "colgroup", "tbody", "td", "tfoot", "th", "thead", "tr"):
		if !has(b, "caption") {
			return false
		}
		b.Stack().Implied("")
		b.Stack().Until("caption")
		b.Formats().Clear()
		b.Set(builder.MoTable)
		return !ends(t, "caption")
	case ends(t, "body", "col", "colgroup", "html", "tbody", "td", "tfoot", "th", "thead", "tr"):
		return false
	}
	return bodies.Body(b, t)
}

// inColumns does a token in MoColumns.
func inColumns(b *builder.Builder, t api.Token) bool {
	switch {
	case t.Kind == api.ToSpace:
		b.Chars(t.Text)
	case t.Kind == api.ToComment:
		b.Comment(t, here)
	case t.Kind == api.ToDoctype, ends(t, "col"):
	case starts(t, "html"):
		b.HTML(t)
	case starts(t, "col"):
		b.Only(t)
	case starts(t, "template"), ends(t, "template"):
		return heads.Head(b, t)
	case t.Kind == api.ToEOF:
		return bodies.Body(b, t)
	case b.Is("colgroup"):
		b.Stack().Pop()
		b.Set(builder.MoTable)
		return !ends(t, "colgroup")
	}
	return false
}

// inBody does a token in MoTableBody.
func inBody(b *builder.Builder, t api.Token) bool {
	switch {
	case starts(t, "tr"):
		cutToBody(b)
		open(b, t, builder.MoRow)
	case starts(t, "th", "td"):
		cutToBody(b)
		imply(b, "tr", builder.MoRow)
		return true
	case ends(t, "tbody", "tfoot", "thead"):
		endBody(b, t.Name)
	case ends(t, "table"), starts(t, "caption", "col", "colgroup", "tbody", "tfoot", "thead"):
		return endBody(b, "tbody", "thead", "tfoot")
	case ends(t, "body", "caption", "col", "colgroup", "html", "td", "th", "tr"):
	default:
		return inTable(b, t)
	}
	return false
}

// endBody ends a table's body, if one of these names is in table scope.
func endBody(b *builder.Builder, names ...string) bool {
	if !has(b, names...) {
		return false
	}
	cutToBody(b)
	b.Stack().Pop()
	b.Set(builder.MoTable)
	return true
}

// inRow does a token in MoRow.
func inRow(b *builder.Builder, t api.Token) bool {
	switch {
	case starts(t, "th", "td"):
		cutToRow(b)
		open(b, t, builder.MoCell)
		b.Fail(b.Formats().Mark())
	case ends(t, "tr"):
		endRow(b)
	case ends(t, "table"), starts(t, "caption", "col", "colgroup", "tbody", "tfoot", "thead", "tr"):
		return endRow(b)
	case ends(t, "tbody", "tfoot", "thead"):
		return has(b, t.Name) && endRow(b)
	case ends(t, "body", "caption", "col", "colgroup", "html", "td", "th"):
	default:
		return inTable(b, t)
	}
	return false
}

// endRow ends the row, if there is one.
func endRow(b *builder.Builder) bool {
	if !has(b, "tr") {
		return false
	}
	cutToRow(b)
	b.Stack().Pop()
	b.Set(builder.MoTableBody)
	return true
}

// inCell does a token in MoCell.
func inCell(b *builder.Builder, t api.Token) bool {
	switch {
	case ends(t, "td", "th"):
		endCell(b, t.Name)
		return false
	case starts(t, "caption", "col", "colgroup", "tbody", "td", "tfoot", "th", "thead", "tr"):
		return endCell(b, "td", "th")
	case ends(t, "body", "caption", "col", "colgroup", "html"):
		return false
	case ends(t, "table", "tbody", "tfoot", "thead", "tr"):
		return has(b, t.Name) && endCell(b, "td", "th")
	}
	return bodies.Body(b, t)
}

// endCell ends the cell, if one of these names is there.
func endCell(b *builder.Builder, names ...string) bool {
	if !has(b, names...) {
		return false
	}
	b.Stack().Implied("")
	b.Stack().Until(names...)
	b.Formats().Clear()
	b.Set(builder.MoRow)
	return true
}

// inTemplate does a token in MoTemplate.
func inTemplate(b *builder.Builder, t api.Token) bool {
	switch {
	case heads.Belongs(t):
		return heads.Head(b, t)
	case t.Kind == api.ToStart:
		mode := templateMode(t.Name)
		b.Pop()
		b.Push(mode)
		b.Set(mode)
		return true
	case t.Kind == api.ToEnd:
		return false
	case t.Kind == api.ToEOF:
		return heads.Over(b)
	}
	return bodies.Body(b, t)
}

// templateMode is where a template goes on by its first tag.
func templateMode(name string) int {
	modes := map[string]int{
		"caption":  builder.MoTable,
		"colgroup": builder.MoTable,
		"tbody":    builder.MoTable,
		"tfoot":    builder.MoTable,
		"thead":    builder.MoTable,
		"col":      builder.MoColumns,
		"tr":       builder.MoTableBody,
		"td":       builder.MoRow,
		"th":       builder.MoRow,
	}
	if mode, ok := modes[name]; ok {
		return mode
	}
	return builder.MoBody
}
