package items

import (
	"strings"

	"lazaret/api"
	"lazaret/ascii"
	"lazaret/urls"
)

// A finder has a node's items, as far as they are found.
type finder struct {
	tree  api.Tree
	node  int
	n     api.Node
	base  api.URL
	items []api.Item
}

// Of are the items of a node, in order, by a base URL.
func Of(t api.Tree, node int, base api.URL) []api.Item {
	if !has(t, node) || t.Nodes[node].Kind != api.NoElement {
		return nil
	}
	f := finder{tree: t, node: node, n: t.Nodes[node], base: base}
	f.attributes()
	switch f.n.Space {
	case api.SpMath:
	case api.SpSVG:
		f.svg()
	default:
		f.html()
	}
	return f.items
}

// add adds an item.
func (f *finder) add(x api.Item) {
	x.Node = f.node
	f.items = append(f.items, x)
}

// attributes finds style attributes and handlers.
func (f *finder) attributes() {
	for _, a := range f.n.Attrs {
		if a.Name == "style" {
			f.add(api.Item{Kind: api.ItRule, Attr: a.Name, Text: a.Value})
		} else if isHandler(a.Name) {
			f.add(api.Item{Kind: api.ItHandler, Attr: a.Name, Text: a.Value})
		}
	}
}

func isHandler(name string) bool {
	return len(name) > 2 && strings.HasPrefix(name, "on") && ascii.Alpha(name[2])
}

// svg finds what an element of SVG has.
func (f *finder) svg() {
	switch f.n.Name {
	case "script":
		f.script("href")
	case "style":
		f.style()
	case "a":
		f.lead("href")
	case "image", "feimage":
		f.fetch(api.ItImage, "href")
	}
}

// html finds what an element of HTML has.
func (f *finder) html() {
	switch f.n.Name {
	case "script":
		f.script("src")
	case "style":
		f.style()
	case "link":
		f.link()
	case "img":
		f.fetch(api.ItImage, "src")
	case "input":
		if ascii.Same(valueOf(f.n, "type"), "image") {
			f.fetch(api.ItImage, "src")
		}
		fallthrough
	case "button":
		f.submit("formaction")
	case "form":
		f.submit("action")
	case "video":
		f.fetch(api.ItImage, "poster")
		fallthrough
	case "audio", "track":
		f.fetch(api.ItMedia, "src")
	case "source":
		if isHTML(f.tree, f.n.Parent, "video") || isHTML(f.tree, f.n.Parent, "audio") {
			f.fetch(api.ItMedia, "src")
		}
	case "iframe", "frame":
		if !f.lead("src") {
			f.fetch(api.ItFrame, "src")
		}
	case "embed":
		f.fetch(api.ItObject, "src")
	case "object":
		f.fetch(api.ItObject, "data")
	case "a", "area":
		f.lead("href")
	case "base":
		f.fetch(api.ItBase, "href")
	}
}

// fetch finds what is fetched by an attribute.
func (f *finder) fetch(kind int, attr string) {
	value := valueOf(f.n, attr)
	if value == "" {
		return
	}
	if u, e := urls.Parse(value, &f.base); e == api.OK {
		f.add(api.Item{
			Kind: kind, Attr: attr, URL: urls.Text(u),
			Nonce: Nonce(f.n), Integrity: valueOf(f.n, "integrity"),
		})
	}
}

// lead finds a javascript: URL, to which an attribute leads; whether it does.
func (f *finder) lead(attr string) bool {
	value, ok := attribute(f.n, attr)
	if !ok {
		return false
	}
	u, e := urls.Parse(value, &f.base)
	if e != api.OK || u.Scheme != "javascript" {
		return false
	}
	f.add(api.Item{Kind: api.ItJava, Attr: attr, Text: urls.Text(u)})
	return true
}

// submit finds where a form is sent to.
func (f *finder) submit(attr string) {
	f.lead(attr)
	f.fetch(api.ItForm, attr)
}

// script finds a script, which is fetched by an attribute, or stands here.
func (f *finder) script(attr string) {
	if !runs(f.n) {
		return
	}
	if _, ok := attribute(f.n, attr); ok {
		f.fetch(api.ItScript, attr)
	} else if text := textOf(f.tree, f.n); text != "" {
		f.add(api.Item{Kind: api.ItInline, Text: text, Nonce: Nonce(f.n)})
	}
}

// runs tells whether a script's type is one that browsers run.
func runs(n api.Node) bool {
	switch ascii.Lower(ascii.Strip(valueOf(n, "type"))) {
	case "", "module", "importmap",
		"application/ecmascript", "application/javascript", "application/x-ecmascript", "application/x-javascript",
		"text/ecmascript", "text/javascript", "text/javascript1.0", "text/javascript1.1", "text/javascript1.2",
		"text/javascript1.3", "text/javascript1.4", "text/javascript1.5", "text/jscript", "text/livescript",
		"text/x-ecmascript", "text/x-javascript":
		return true
	}
	return false
}

// style finds a style sheet that stands here.
func (f *finder) style() {
	kind := valueOf(f.n, "type")
	if kind == "" || ascii.Same(kind, "text/css") {
		f.add(api.Item{Kind: api.ItSheet, Text: textOf(f.tree, f.n), Nonce: Nonce(f.n)})
	}
}

// link finds what is fetched by each word that a link says of itself.
func (f *finder) link() {
	for _, word := range ascii.Fields(ascii.Lower(valueOf(f.n, "rel"))) {
		kind := linked(word)
		if word == "preload" {
			kind = preloaded(ascii.Lower(valueOf(f.n, "as")))
		}
		if kind != 0 {
			f.fetch(kind, "href")
		}
	}
}

// linked is the kind of what is fetched by a word; 0: nothing is.
func linked(word string) int {
	switch word {
	case "stylesheet":
		return api.ItStyle
	case "icon":
		return api.ItImage
	case "manifest":
		return api.ItManifest
	case "modulepreload":
		return api.ItScript
	}
	return 0
}

// preloaded is the kind of what is fetched ahead, as something; 0: nothing is.
func preloaded(as string) int {
	switch as {
	case "script":
		return api.ItScript
	case "style":
		return api.ItStyle
	case "image":
		return api.ItImage
	case "font":
		return api.ItFont
	case "fetch":
		return api.ItConnect
	case "audio", "video", "track":
		return api.ItMedia
	}
	return 0
}
