package tables_test

import (
	"slices"
	"strings"
	"testing"

	"lazaret/api"
	"lazaret/bodies"
	"lazaret/builder"
	"lazaret/heads"
	"lazaret/tables"
	"lazaret/tokens"
)

// fresh is a builder with html and body, 1 and 2, in MoBody.
func fresh() *builder.Builder {
	b := builder.New()
	b.Imply("html")
	b.Imply("body")
	b.Set(builder.MoBody)
	return b
}

// do does a token once, by the mode.
func do(b *builder.Builder, t api.Token) bool {
	switch b.Mode() {
	case builder.MoText:
		return heads.Step(b, t)
	case builder.MoBody:
		return bodies.Step(b, t)
	}
	return tables.Step(b, t)
}

// feed does the tokens of a text, but its end.
func feed(b *builder.Builder, text string) {
	l := tokens.New(text)
	for t := l.Next(false); t.Kind != api.ToEOF; t = l.Next(false) {
		for do(b, t) {
		}
		if state, name, ok := b.Ask(); ok {
			l.Raw(state, name)
		}
	}
}

func fed(text string) *builder.Builder {
	b := fresh()
	feed(b, text)
	return b
}

// one is the only token of a text.
func one(text string) api.Token { return tokens.New(text).Next(false) }

// show is what a node has, as text.
func show(b *builder.Builder, i int) string {
	n := b.Arena().Node(i)
	if n.Content > 0 {
		return show(b, n.Content)
	}
	var texts []string
	for _, k := range n.Kids {
		switch n := b.Arena().Node(k); n.Kind {
		case api.NoText:
			texts = append(texts, n.Text)
		case api.NoComment:
			texts = append(texts, "#"+n.Text)
		default:
			texts = append(texts, n.Name+"("+show(b, k)+")")
		}
	}
	return strings.Join(texts, " ")
}

// open are the names of the open elements behind html and body.
func open(b *builder.Builder) string {
	var names []string
	for k := 2; k < b.Stack().Len(); k++ {
		names = append(names, b.Arena().Node(b.Stack().At(k)).Name)
	}
	return strings.Join(names, " ")
}

// check feeds a text, and holds the body's kids, what is open, and the mode
// against what they are to be.
func check(t *testing.T, text, want, wantOpen string, mode int) *builder.Builder {
	t.Helper()
	b := fed(text)
	if got := show(b, 2); got != want || open(b) != wantOpen || b.Mode() != mode {
		t.Errorf("%q: %s, open %q, mode %d; want %s, %q, %d", text, got, open(b), b.Mode(), want, wantOpen, mode)
	}
	return b
}

// ignored says that tags, one by one, do nothing behind a text.
func ignored(t *testing.T, text, tags string) {
	t.Helper()
	for _, tag := range strings.Fields(tags) {
		b := fed(text)
		was, nodes, mode := open(b), b.Arena().Len(), b.Mode()
		if tables.Step(b, one(tag)) || open(b) != was || b.Arena().Len() != nodes || b.Mode() != mode {
			t.Errorf("%q, %s: open %q, mode %d", text, tag, open(b), b.Mode())
		}
		if one(tag).Kind != api.ToEnd || mode == builder.MoCell && strings.Contains("</th> </tfoot> </thead>", tag) || mode == builder.MoRow && strings.Contains("</tfoot> </thead>", tag) || mode == builder.MoTableBody && strings.Contains("</tbody> </tfoot>", tag) || mode == builder.MoTemplate {
			continue
		}
		// The body could be ended.
		b = fresh()
		b.Set(mode)
		if tables.Step(b, one(tag)) || b.Stack().Len() != 2 || b.Arena().Len() != 3 || b.Mode() != mode {
			t.Errorf("mode %d, %s: open %q, mode %d", mode, tag, open(b), b.Mode())
		}
		// An element of that name is open, and could be ended.
		b = fresh()
		b.Imply(one(tag).Name)
		b.Set(mode)
		if tables.Step(b, one(tag)) || b.Stack().Len() != 3 || b.Arena().Len() != 4 || b.Mode() != mode {
			t.Errorf("mode %d, %s: open %q, mode %d", mode, tag, open(b), b.Mode())
		}
	}
}

// P21.1: what is cut ends at html, and where nothing is open.
func TestCut(t *testing.T) {
	for mode, tags := range map[int]string{builder.MoTable: "<caption> <colgroup> <tbody>", builder.MoTableBody: "<tr>", builder.MoRow: "<td> <th>"} {
		for _, tag := range strings.Fields(tags) {
			b := fresh()
			b.Set(mode)
			tables.Step(b, one(tag))
			if b.Stack().Len() != 2 || b.Stack().At(0) != 1 || !b.Is(one(tag).Name) {
				t.Errorf("mode %d, %s: %d open", mode, tag, b.Stack().Len())
			}
			b = builder.New()
			b.Imply("p")
			b.Set(mode)
			tables.Step(b, one(tag))
			if b.Stack().Len() != 1 || !b.Is(one(tag).Name) {
				t.Errorf("mode %d, %s, nothing is left: %d open", mode, tag, b.Stack().Len())
			}
		}
	}
}

// P21.1: start tags of what tables are made of.
func TestTableStarts(t *testing.T) {
	b := check(t, "<table><caption a>x", "table(caption(x))", "table caption", builder.MoCaption)
	if _, marker := b.Formats().At(0); !marker {
		t.Error("no marker")
	}
	check(t, "<table><colgroup a>", "table(colgroup())", "table colgroup", builder.MoColumns)
	check(t, "<table><col a>", "table(colgroup(col()))", "table colgroup", builder.MoColumns)
	for _, name := range []string{"tbody", "tfoot", "thead"} {
		check(t, "<table><"+name+" a>", "table("+name+"())", "table "+name, builder.MoTableBody)
	}
	check(t, "<table><tr>", "table(tbody(tr()))", "table tbody tr", builder.MoRow)
	check(t, "<table><td>x", "table(tbody(tr(td(x))))", "table tbody tr td", builder.MoCell)
	check(t, "<table><th>x", "table(tbody(tr(th(x))))", "table tbody tr th", builder.MoCell)
	check(t, "<table><b><caption>", "b() table(caption())", "table caption", builder.MoCaption)
	check(t, "<table><b><colgroup>", "b() table(colgroup())", "table colgroup", builder.MoColumns)
	check(t, "<table><b><col>", "b() table(colgroup(col()))", "table colgroup", builder.MoColumns)
	check(t, "<table><b><tbody>", "b() table(tbody())", "table tbody", builder.MoTableBody)
	check(t, "<table><b><tr>", "b() table(tbody(tr()))", "table tbody tr", builder.MoRow)
	for _, again := range []string{"<col>", "<td>", "<th>", "<tr>", "<table>"} {
		if b := fed("<table>"); !tables.Step(b, one(again)) {
			t.Errorf("%s: not again", again)
		}
	}
	for _, once := range []string{"<caption>", "<colgroup>", "<tbody>", "<b>", "<input type=hidden>", "<form>", "<style>", "</table>"} {
		if b := fed("<table>"); tables.Step(b, one(once)) {
			t.Errorf("%s: again", once)
		}
	}
}

// P21.1: a table that starts or ends in one, and what is left out.
func TestTableEnds(t *testing.T) {
	check(t, "<table></table>x", "table() x", "", builder.MoBody)
	check(t, "<table><table>", "table() table()", "table", builder.MoTable)
	check(t, "<table><tr><td><table></table>x", "table(tbody(tr(td(table() x))))", "table tbody tr td", builder.MoCell)
	check(t, "<p><table><b></table>x", "p() b() table() b(x)", "b", builder.MoBody)
	ignored(t, "<table>", "<!doctype> </body> </caption> </col> </colgroup> </html> </tbody> </td> </tfoot> </th> </thead> </tr>")
	b := fresh()
	b.Set(builder.MoTable)
	if tables.Step(b, one("</table>")) || tables.Step(b, one("<table>")) || open(b) != "" || b.Mode() != builder.MoTable {
		t.Errorf("no table: open %q", open(b))
	}
	check(t, "<table><!--c-->", "table(#c)", "table", builder.MoTable)
}

// P21.1: what else stands in a table.
func TestTableOthers(t *testing.T) {
	check(t, "<table><style>x</style><script>y</script>", "table(style(x) script(y))", "table", builder.MoTable)
	b := check(t, "<table><template>", "table(template())", "table template", builder.MoTemplate)
	if feed(b, "</template>"); open(b) != "table" || b.Mode() != builder.MoTable {
		t.Errorf("template ends: open %q, mode %d", open(b), b.Mode())
	}
	check(t, "<table><title>x</title>", "title(x) table()", "table", builder.MoTable)
	check(t, "<table><input type=HIDDEN><input type=x><input><input type=' hidden'>", "input() input() input() table(input())", "table", builder.MoTable)
	b = check(t, "<table><form a><form b>", "table(form())", "table", builder.MoTable)
	if b.Form() != 4 {
		t.Errorf("form %d", b.Form())
	}
	b = fed("<template><table>")
	if feed(b, "<form>"); b.Form() != -1 || show(b, 2) != "template(table())" {
		t.Errorf("form %d, %s", b.Form(), show(b, 2))
	}
	b = fed("<table>")
	b.Push(builder.MoTemplate)
	b.Imply("template")
	b.Set(builder.MoTable)
	if !tables.Step(b, api.Token{Kind: api.ToEOF}) || open(b) != "table" {
		t.Error("the text's end in a template")
	}
	b = fed("<table>")
	if tables.Step(b, api.Token{Kind: api.ToEOF}) || open(b) != "table" {
		t.Error("the text's end")
	}
	check(t, "<table><p>x<b>y</p>z<i>", "p(x b(y)) b(z i()) table()", "table b i", builder.MoTable)
	check(t, "<table></br></p>", "br() p() table()", "table", builder.MoTable)
	check(t, "<table><b></b>x<!--c-->", "b() x table(#c)", "table", builder.MoTable)
	b = fed("<table>")
	if tables.Step(b, one("<b>")); open(b) != "table b" {
		t.Errorf("open %q", open(b))
	}
	i := b.Arena().Add(api.Node{Kind: api.NoElement, Name: "q"})
	if b.Put(i, 3); b.Arena().Node(i).Parent != 3 {
		t.Error("still fostered")
	}
}

// P21.2: characters in tables.
func TestTableText(t *testing.T) {
	b := fed("<table>")
	b.SetPending("old")
	if !tables.Step(b, one(" ")) || b.Mode() != builder.MoTableText || b.Back() != builder.MoTable || b.Pending() != "" {
		t.Errorf("mode %d, pending %q", b.Mode(), b.Pending())
	}
	for _, text := range []string{" ", "\x00", "x", "\n"} {
		if tables.Step(b, one(text)) {
			t.Errorf("%q: again", text)
		}
	}
	if b.Pending() != " x\n" || b.Arena().Len() != 4 {
		t.Errorf("pending %q", b.Pending())
	}
	if !tables.Step(b, one("<!--c-->")) || b.Pending() != "" || b.Mode() != builder.MoTable || show(b, 2) != " x\n table()" {
		t.Errorf("pending %q, mode %d, %s", b.Pending(), b.Mode(), show(b, 2))
	}
	check(t, "<table> \t\n<!--c-->", "table( \t\n #c)", "table", builder.MoTable)
	check(t, "<table> \x00 <tr>", "table(   tbody(tr()))", "table tbody tr", builder.MoRow)
	check(t, "<table>\x00<tr>", "table(tbody(tr()))", "table tbody tr", builder.MoRow)
	check(t, "<table>x<tr> <td>", "x table(tbody(tr(  td())))", "table tbody tr td", builder.MoCell)
	check(t, "<table>x\ny<b> z", "x\ny b( z) table()", "table b", builder.MoTable)
	check(t, "<table> <b>y", "b(y) table( )", "table b", builder.MoTable)
	for _, name := range []string{"tbody", "tfoot", "thead", "tr"} {
		b = fed("<table><" + name + ">")
		mode := b.Mode()
		if !tables.Step(b, one("x")) || b.Mode() != builder.MoTableText || b.Back() != mode {
			t.Errorf("%s: mode %d", name, b.Mode())
		}
	}
	b = fed("<table>")
	b.Imply("template")
	if !tables.Step(b, one("x")) || b.Mode() != builder.MoTableText {
		t.Errorf("template: mode %d", b.Mode())
	}
	b = fed("<table>")
	b.Insert(one("<tr>"), api.SpSVG)
	if tables.Step(b, one("x")) || b.Mode() != builder.MoTable {
		t.Errorf("tr of SVG: mode %d", b.Mode())
	}
	b = fed("<table> ")
	if !tables.Step(b, api.Token{Kind: api.ToEOF}) || b.Mode() != builder.MoTable || show(b, 2) != "table( )" {
		t.Errorf("the end: mode %d, %s", b.Mode(), show(b, 2))
	}
}

// P21.3: MoCaption.
func TestCaption(t *testing.T) {
	const text = "<table><caption><i><p>"
	b := check(t, text+"</caption>", "table(caption(i(p())))", "table", builder.MoTable)
	if b.Formats().Len() != 0 {
		t.Error("not cleared")
	}
	b = fed(text)
	if tables.Step(b, one("</caption>")) {
		t.Error("caption ends: again")
	}
	for _, tag := range strings.Fields("</table> <caption> <col> <colgroup> <tbody> <td> <tfoot> <th> <thead> <tr>") {
		b := fed(text)
		if !tables.Step(b, one(tag)) || open(b) != "table" || b.Mode() != builder.MoTable || b.Formats().Len() != 0 {
			t.Errorf("%s: open %q, mode %d", tag, open(b), b.Mode())
		}
	}
	ignored(t, text, "</body> </col> </colgroup> </html> </tbody> </td> </tfoot> </th> </thead> </tr>")
	check(t, text+"x<b>y</p>z", "table(caption(i(p(x b(y)) b(z))))", "table caption i b", builder.MoCaption)
	for _, tag := range strings.Fields("</caption> </table> <caption> <tr>") {
		b := fed("<table>")
		b.Set(builder.MoCaption)
		if tables.Step(b, one(tag)) || open(b) != "table" || b.Mode() != builder.MoCaption {
			t.Errorf("no caption: %s: open %q, mode %d", tag, open(b), b.Mode())
		}
	}
}

// P21.4: MoColumns.
func TestColumns(t *testing.T) {
	const text = "<table><colgroup>"
	check(t, text+" <!--c--><col><col></col><!doctype>", "table(colgroup(  #c col() col()))", "table colgroup", builder.MoColumns)
	b := check(t, text+"<html x>", "table(colgroup())", "table colgroup", builder.MoColumns)
	if len(b.Arena().Node(1).Attrs) != 1 {
		t.Error("html starts")
	}
	b = check(t, text+"<template>", "table(colgroup(template()))", "table colgroup template", builder.MoTemplate)
	if feed(b, "</template>"); open(b) != "table colgroup" || b.Mode() != builder.MoColumns {
		t.Errorf("template ends: open %q, mode %d", open(b), b.Mode())
	}
	check(t, "<template><col></template>x", "template(col()) x", "", builder.MoBody)
	b = fed(text)
	if tables.Step(b, one("</colgroup>")) || open(b) != "table" || b.Mode() != builder.MoTable {
		t.Error("colgroup ends")
	}
	for _, tag := range strings.Fields("x \x00 <p> <tr> <colgroup> </table> </p> <style>") {
		b := fed(text)
		if !tables.Step(b, one(tag)) || open(b) != "table" || b.Mode() != builder.MoTable {
			t.Errorf("%q: open %q, mode %d", tag, open(b), b.Mode())
		}
		b = fed("<table>")
		b.Set(builder.MoColumns)
		if tables.Step(b, one(tag)) || open(b) != "table" || b.Mode() != builder.MoColumns || b.Arena().Len() != 4 {
			t.Errorf("%q, no colgroup: open %q, mode %d", tag, open(b), b.Mode())
		}
	}
	b = fed(text)
	b.Push(builder.MoTemplate)
	b.Imply("template")
	if !tables.Step(b, api.Token{Kind: api.ToEOF}) {
		t.Error("the text's end in a template")
	}
	if b = fed(text); tables.Step(b, api.Token{Kind: api.ToEOF}) || open(b) != "table colgroup" {
		t.Error("the text's end")
	}
}

// P21.5: MoTableBody.
func TestTableBody(t *testing.T) {
	const text = "<table><thead>"
	check(t, text+"<tr a>", "table(thead(tr()))", "table thead tr", builder.MoRow)
	check(t, text+"<b><tr>", "b() table(thead(tr()))", "table thead tr", builder.MoRow)
	check(t, text+"<td>", "table(thead(tr(td())))", "table thead tr td", builder.MoCell)
	check(t, text+"<b><th>", "b() table(thead(tr(th())))", "table thead tr th", builder.MoCell)
	for _, name := range []string{"tbody", "tfoot", "thead"} {
		b := check(t, "<table><"+name+"><b></"+name+">", "b() table("+name+"())", "table", builder.MoTable)
		b = fed("<table><" + name + ">")
		if tables.Step(b, one("</"+name+">")) {
			t.Errorf("%s ends: again", name)
		}
		for _, tag := range strings.Fields("<caption> <col> <colgroup> <tbody> <tfoot> <thead> </table>") {
			b := fed("<table><" + name + "><b>")
			if !tables.Step(b, one(tag)) || open(b) != "table" || b.Mode() != builder.MoTable {
				t.Errorf("%s: %s: open %q, mode %d", name, tag, open(b), b.Mode())
			}
		}
	}
	ignored(t, text, "</tbody> </tfoot> </body> </caption> </col> </colgroup> </html> </td> </th> </tr>")
	check(t, text+"x<style>y</style>", "x table(thead(style(y)))", "table thead", builder.MoTableBody)
	check(t, text+"<table>", "table(thead()) table()", "table", builder.MoTable)
	for _, tag := range strings.Fields("<caption> <tbody> </table> </tbody>") {
		b := fed("<table>")
		b.Set(builder.MoTableBody)
		if tables.Step(b, one(tag)) || open(b) != "table" || b.Mode() != builder.MoTableBody {
			t.Errorf("no body: %s: open %q, mode %d", tag, open(b), b.Mode())
		}
	}
}

// P21.6: MoRow.
func TestRow(t *testing.T) {
	const text = "<table><tr>"
	for _, name := range []string{"td", "th"} {
		b := check(t, text+"<b><"+name+">", "b() table(tbody(tr("+name+"())))", "table tbody tr "+name, builder.MoCell)
		if _, marker := b.Formats().At(1); !marker {
			t.Error("no marker")
		}
	}
	b := check(t, text+"<b></tr>", "b() table(tbody(tr()))", "table tbody", builder.MoTableBody)
	if b = fed(text); tables.Step(b, one("</tr>")) {
		t.Error("tr ends: again")
	}
	for _, tag := range strings.Fields("<caption> <col> <colgroup> <tbody> <tfoot> <thead> <tr> </table> </tbody>") {
		b := fed(text + "<b>")
		if !tables.Step(b, one(tag)) || open(b) != "table tbody" || b.Mode() != builder.MoTableBody {
			t.Errorf("%s: open %q, mode %d", tag, open(b), b.Mode())
		}
	}
	ignored(t, text, "</tfoot> </thead> </body> </caption> </col> </colgroup> </html> </td> </th>")
	check(t, text+"x<table>", "x table(tbody(tr())) table()", "table", builder.MoTable)
	for _, name := range []string{"tbody", "tfoot", "thead"} {
		b := fed("<table><" + name + "><tr><b>")
		if !tables.Step(b, one("</"+name+">")) || open(b) != "table "+name || b.Mode() != builder.MoTableBody {
			t.Errorf("%s ends: open %q, mode %d", name, open(b), b.Mode())
		}
	}
	for _, tag := range strings.Fields("<caption> <tr> </table> </tbody> </tr>") {
		b := fed("<table><tbody>")
		b.Set(builder.MoRow)
		if tables.Step(b, one(tag)) || open(b) != "table tbody" || b.Mode() != builder.MoRow {
			t.Errorf("no row: %s: open %q, mode %d", tag, open(b), b.Mode())
		}
	}
}

// P21.7: MoCell.
func TestCell(t *testing.T) {
	const text = "<table><td><i><p>"
	b := check(t, text+"</td>", "table(tbody(tr(td(i(p())))))", "table tbody tr", builder.MoRow)
	if b.Formats().Len() != 0 {
		t.Error("not cleared")
	}
	if b = fed(text); tables.Step(b, one("</td>")) {
		t.Error("td ends: again")
	}
	check(t, "<table><th>x</th>", "table(tbody(tr(th(x))))", "table tbody tr", builder.MoRow)
	for _, tag := range strings.Fields("<caption> <col> <colgroup> <tbody> <td> <tfoot> <th> <thead> <tr> </table> </tbody> </tr>") {
		for _, cell := range []string{"td", "th"} {
			b := fed("<table><" + cell + "><i><p>")
			if !tables.Step(b, one(tag)) || open(b) != "table tbody tr" || b.Mode() != builder.MoRow || b.Formats().Len() != 0 {
				t.Errorf("%s: %s: open %q, mode %d", cell, tag, open(b), b.Mode())
			}
		}
	}
	ignored(t, text, "</th> </tfoot> </thead> </body> </caption> </col> </colgroup> </html>")
	check(t, text+"x<b>y</p>z", "table(tbody(tr(td(i(p(x b(y)) b(z))))))", "table tbody tr td i b", builder.MoCell)
	for _, tag := range strings.Fields("</td> <td> <tr> </table> </tr>") {
		b := fed("<table><tr>")
		b.Set(builder.MoCell)
		if tables.Step(b, one(tag)) || open(b) != "table tbody tr" || b.Mode() != builder.MoCell {
			t.Errorf("no cell: %s: open %q, mode %d", tag, open(b), b.Mode())
		}
	}
	for _, name := range []string{"tbody", "tfoot", "thead"} {
		b := fed("<table><" + name + "><td><i><p>")
		if !tables.Step(b, one("</"+name+">")) || open(b) != "table "+name+" tr" || b.Mode() != builder.MoRow {
			t.Errorf("%s ends: open %q, mode %d", name, open(b), b.Mode())
		}
	}
	check(t, "<table><td>1<td>2<tr><th>3</table>4", "table(tbody(tr(td(1) td(2)) tr(th(3)))) 4", "", builder.MoBody)
}

// P21.8: MoTemplate.
func TestTemplate(t *testing.T) {
	for names, mode := range map[string]int{"caption colgroup tbody tfoot thead": builder.MoTable, "col": builder.MoColumns, "tr": builder.MoTableBody, "td th": builder.MoRow, "p b html body head table svg x": builder.MoBody} {
		for _, name := range strings.Fields(names) {
			b := fed("<template>")
			if !tables.Step(b, one("<"+name+">")) || b.Mode() != mode || !slices.Equal(b.Modes(), []int{mode}) {
				t.Errorf("%s: mode %d, modes %v", name, b.Mode(), b.Modes())
			}
			b = fresh()
			b.Push(builder.MoRow)
			b.Push(builder.MoCell)
			b.Set(builder.MoTemplate)
			if tables.Step(b, one("<"+name+">")); !slices.Equal(b.Modes(), []int{builder.MoRow, mode}) {
				t.Errorf("%s: modes %v", name, b.Modes())
			}
			b = fresh()
			b.Set(builder.MoTemplate)
			if tables.Step(b, one("<"+name+">")); !slices.Equal(b.Modes(), []int{mode}) {
				t.Errorf("%s, no template modes: modes %v", name, b.Modes())
			}
		}
	}
	check(t, "<template><base><style>x</style><script>y</script><title>z</title><meta>", "template(base() style(x) script(y) title(z) meta())", "template", builder.MoTemplate)
	b := check(t, "<template><template></template>", "template(template())", "template", builder.MoTemplate)
	if feed(b, "</template>"); open(b) != "" || b.Mode() != builder.MoBody || len(b.Modes()) != 0 {
		t.Errorf("open %q, mode %d", open(b), b.Mode())
	}
	check(t, "<template>x \x00<!--c--><!doctype>", "template(x  #c)", "template", builder.MoTemplate)
	ignored(t, "<template>", "</p> </br> </body> </html> </table> </x>")
	b = fed("<template><template>")
	end := api.Token{Kind: api.ToEOF}
	if !tables.Step(b, end) || open(b) != "template" || !tables.Step(b, end) || open(b) != "" || b.Mode() != builder.MoBody {
		t.Errorf("the end: open %q, mode %d", open(b), b.Mode())
	}
	b = fresh()
	b.Set(builder.MoTemplate)
	if tables.Step(b, end) || b.Mode() != builder.MoTemplate {
		t.Error("the end, no template")
	}
	check(t, "<template><td>z", "template(td(z))", "template td", builder.MoCell)
	check(t, "<template><tr><td>z</td></tr><tr>", "template(tr(td(z)) tr())", "template tr", builder.MoRow)
	check(t, "<template><col>x<col>", "template(col() col())", "template", builder.MoColumns)
	check(t, "<template><caption>x<tbody><p>", "template(caption(x) tbody() p())", "template tbody p", builder.MoTableBody)
}

// Markers that are too many.
func TestTooMany(t *testing.T) {
	for _, text := range []string{"<table><tr>", "<table>"} {
		b := fed(text)
		for range api.MaxFormats {
			b.Formats().Mark()
		}
		tag := "<td>"
		if b.Mode() == builder.MoTable {
			tag = "<caption>"
		}
		if tables.Step(b, one(tag)); b.Err() != api.ErrLong {
			t.Errorf("%s: %d", tag, b.Err())
		}
	}
}

// Other modes, and builders that are none.
func TestNothing(t *testing.T) {
	for _, mode := range []int{builder.MoInitial, builder.MoHead, builder.MoBody, builder.MoText, builder.MoAfterBody, builder.MoAfterAfter, -1, 18, 1 << 62} {
		for _, text := range []string{"x", "<p>", "<tr>", "</table>", "<!--c-->", " "} {
			b := fresh()
			b.Set(mode)
			if tables.Step(b, one(text)) || b.Mode() != mode || b.Arena().Len() != 3 {
				t.Errorf("mode %d: %q", mode, text)
			}
		}
	}
	for _, b := range []*builder.Builder{nil, {}} {
		if tables.Step(b, one("<tr>")) {
			t.Error("none: true")
		}
	}
}
