package arena_test

import (
	"math/rand"
	"reflect"
	"slices"
	"testing"

	"lazaret/api"
	"lazaret/arena"
)

func element(name string) api.Node { return api.Node{Kind: api.NoElement, Name: name} }

// grown is an arena: 1 div, 2 template with 3, 4 p, 5 a text, 6 a comment, 7 a
// doctype; nothing is put anywhere.
func grown() *arena.Arena {
	a := arena.New()
	for _, n := range []api.Node{element("div"), element("template"), element("p"), {Kind: api.NoText, Text: "t"}, {Kind: api.NoComment}, {Kind: api.NoDoctype}} {
		a.Add(n)
	}
	return a
}

func checkKids(t *testing.T, a *arena.Arena, p int, want ...int) {
	t.Helper()
	if got := a.Node(p).Kids; !slices.Equal(got, want) {
		t.Errorf("kids of %d: %v, want %v", p, got, want)
	}
	for _, i := range want {
		if a.Node(i).Parent != p {
			t.Errorf("parent of %d: %d, want %d", i, a.Node(i).Parent, p)
		}
	}
}

func checkErr(t *testing.T, what string, got, want api.Errno) {
	t.Helper()
	if got != want {
		t.Errorf("%s: %d, want %d", what, got, want)
	}
}

// P14.1: what is new, and what is told.
func TestNew(t *testing.T) {
	a := arena.New()
	document := api.Node{Kind: api.NoDocument, Parent: -1, From: -1, To: -1}
	if a.Len() != 1 || !reflect.DeepEqual(a.Node(0), document) || !reflect.DeepEqual(a.Tree(), []api.Node{document}) {
		t.Errorf("new: %+v", a.Tree())
	}
	for _, i := range []int{-1, 1, 1 << 62, -1 << 62} {
		if !reflect.DeepEqual(a.Node(i), api.Node{}) {
			t.Errorf("node %d", i)
		}
	}
}

// P14.2: Add.
func TestAdd(t *testing.T) {
	a := arena.New()
	for kind := -1; kind < 9; kind++ {
		kid := kind == api.NoDoctype || kind == api.NoElement || kind == api.NoText || kind == api.NoComment
		want := -1
		if kid {
			want = a.Len()
		}
		if got := a.Add(api.Node{Kind: kind}); got != want {
			t.Errorf("Add of kind %d: %d, want %d", kind, got, want)
		}
	}
	n := api.Node{Kind: api.NoElement, Name: "p", Text: "t", Space: api.SpSVG, Attrs: []api.Attr{{Name: "a", Value: "b"}}, Dup: true, Parent: 0, Content: 9, Kids: []int{1}, From: 3, To: 8}
	i := a.Add(n)
	want := n
	want.Parent, want.Content, want.Kids = -1, 0, nil
	if got := a.Node(i); i != 5 || !reflect.DeepEqual(got, want) {
		t.Errorf("Add: %d, %+v", i, got)
	}
	if a.Len() != 6 || len(a.Tree()) != 6 || !reflect.DeepEqual(a.Tree()[5], want) {
		t.Errorf("tree: %+v", a.Tree())
	}
}

// P14.2: templates have contents.
func TestAddTemplate(t *testing.T) {
	a := arena.New()
	i := a.Add(api.Node{Kind: api.NoElement, Name: "template", From: 2, To: 5})
	if i != 1 || a.Len() != 3 || a.Node(1).Content != 2 || !reflect.DeepEqual(a.Node(2), api.Node{Kind: api.NoContent, Parent: -1, From: -1, To: -1}) {
		t.Errorf("template: %+v", a.Tree())
	}
	for _, n := range []api.Node{{Kind: api.NoElement, Name: "template", Space: api.SpSVG}, {Kind: api.NoElement, Name: "Template"}, {Kind: api.NoText, Name: "template"}, {Kind: api.NoElement, Name: "template", Space: api.SpMath}, {Kind: api.NoComment, Name: "template"}} {
		was := a.Len()
		if i := a.Add(n); a.Len() != was+1 || a.Node(i).Content != 0 {
			t.Errorf("%+v: %+v", n, a.Node(i))
		}
	}
}

// P14.3: Append.
func TestAppend(t *testing.T) {
	a := grown()
	checkErr(t, "0 1", a.Append(0, 1), api.OK)
	checkErr(t, "1 2", a.Append(1, 2), api.OK)
	checkErr(t, "3 4", a.Append(3, 4), api.OK)
	checkErr(t, "4 5", a.Append(4, 5), api.OK)
	for _, x := range [][2]int{{3, 1}, {3, 2}, {4, 1}, {4, 2}, {4, 4}, {1, 1}, {1, 0}, {1, 3}, {5, 6}, {6, 4}, {7, 4}, {-1, 4}, {9, 4}, {0, -1}, {0, 9}, {1 << 62, 1}, {0, -1 << 62}} {
		was := a.Tree()
		checkErr(t, "bad", a.Append(x[0], x[1]), api.ErrArg)
		if !reflect.DeepEqual(a.Tree(), was) {
			t.Errorf("Append(%d, %d) changed something", x[0], x[1])
		}
	}
	checkErr(t, "0 6", a.Append(0, 6), api.OK)
	checkErr(t, "0 7", a.Append(0, 7), api.OK)
	checkErr(t, "0 1 again", a.Append(0, 1), api.OK)
	checkKids(t, a, 0, 6, 7, 1)
	checkErr(t, "0 4", a.Append(0, 4), api.OK)
	checkKids(t, a, 0, 6, 7, 1, 4)
	checkKids(t, a, 3)
}

// P14.3: Before, and Detach.
func TestBefore(t *testing.T) {
	a := grown()
	for _, i := range []int{1, 4, 5} {
		a.Append(0, i)
	}
	a.Append(1, 2)
	for _, x := range [][2]int{{1, 2}, {1, 1}, {0, 1}, {3, 1}, {6, 3}, {6, 0}, {6, 7}, {-1, 1}, {9, 1}, {6, -1}, {6, 9}, {5, 1 << 62}, {2, 2}} {
		was := a.Tree()
		checkErr(t, "bad", a.Before(x[0], x[1]), api.ErrArg)
		if !reflect.DeepEqual(a.Tree(), was) {
			t.Errorf("Before(%d, %d) changed something", x[0], x[1])
		}
	}
	checkErr(t, "6 1", a.Before(6, 1), api.OK)
	checkErr(t, "7 5", a.Before(7, 5), api.OK)
	checkKids(t, a, 0, 6, 1, 4, 7, 5)
	checkErr(t, "5 1", a.Before(5, 1), api.OK)
	checkKids(t, a, 0, 6, 5, 1, 4, 7)
	checkErr(t, "6 7", a.Before(6, 7), api.OK)
	checkKids(t, a, 0, 5, 1, 4, 6, 7)
	checkErr(t, "4 2", a.Before(4, 2), api.OK)
	checkKids(t, a, 1, 4, 2)
	checkErr(t, "detach", a.Detach(4), api.OK)
	checkKids(t, a, 1, 2)
	if a.Node(4).Parent != -1 {
		t.Error("detached")
	}
	for _, i := range []int{0, 3, 4} {
		checkErr(t, "detach", a.Detach(i), api.OK)
	}
	for _, i := range []int{-1, 8, 1 << 62} {
		checkErr(t, "detach none", a.Detach(i), api.ErrArg)
	}
	a.Append(3, 4)
	checkErr(t, "above", a.Before(1, 4), api.ErrArg)
	checkErr(t, "above", a.Before(2, 4), api.ErrArg)
}

// P14.4: Move.
func TestMove(t *testing.T) {
	a := grown()
	a.Append(0, 1)
	a.Append(1, 2)
	a.Append(1, 5)
	a.Append(4, 6)
	for _, x := range [][2]int{{1, 1}, {1, 3}, {0, 1}, {2, 3}, {1, 5}, {5, 1}, {7, 1}, {-1, 1}, {1, 8}, {1, 2}} {
		was := a.Tree()
		checkErr(t, "bad", a.Move(x[0], x[1]), api.ErrArg)
		if !reflect.DeepEqual(a.Tree(), was) {
			t.Errorf("Move(%d, %d) changed something", x[0], x[1])
		}
	}
	checkErr(t, "1 4", a.Move(1, 4), api.OK)
	checkKids(t, a, 1)
	checkKids(t, a, 4, 6, 2, 5)
	checkErr(t, "4 0", a.Move(4, 0), api.OK)
	checkKids(t, a, 0, 1, 6, 2, 5)
	checkErr(t, "nothing", a.Move(4, 3), api.OK)
	checkErr(t, "from the document", a.Move(0, 4), api.OK)
	checkKids(t, a, 4, 1, 6, 2, 5)
	checkKids(t, a, 0)
}

// P14.5: Text.
func TestText(t *testing.T) {
	a := grown()
	a.Append(0, 1)
	a.Append(1, 2)
	checkErr(t, "a", a.Text(1, -1, "a"), api.OK)
	checkErr(t, "b", a.Text(1, -1, "b"), api.OK)
	checkErr(t, "c", a.Text(1, 2, "c"), api.OK)
	checkErr(t, "d", a.Text(1, 2, "d"), api.OK)
	checkKids(t, a, 1, 9, 2, 8)
	want := api.Node{Kind: api.NoText, Text: "ab", Parent: 1, From: -1, To: -1}
	if !reflect.DeepEqual(a.Node(8), want) || a.Node(9).Text != "cd" {
		t.Errorf("texts: %+v", a.Tree())
	}
	checkErr(t, "e", a.Text(1, 9, "e"), api.OK)
	checkKids(t, a, 1, 10, 9, 2, 8)
	for _, x := range [][2]int{{5, -1}, {6, -1}, {7, -1}, {-1, -1}, {99, -1}, {1, -2}, {1, 1}, {1, 4}, {0, 2}, {1, 99}} {
		was := a.Tree()
		checkErr(t, "bad", a.Text(x[0], x[1], "x"), api.ErrArg)
		checkErr(t, "bad, of nothing", a.Text(x[0], x[1], ""), api.ErrArg)
		if !reflect.DeepEqual(a.Tree(), was) {
			t.Errorf("Text(%d, %d) changed something", x[0], x[1])
		}
	}
	was := a.Tree()
	checkErr(t, "nothing", a.Text(1, 2, ""), api.OK)
	checkErr(t, "nothing", a.Text(3, -1, ""), api.OK)
	if !reflect.DeepEqual(a.Tree(), was) {
		t.Error("no text changed something")
	}
	checkErr(t, "document", a.Text(0, -1, "x"), api.OK)
	checkErr(t, "content", a.Text(3, -1, "y"), api.OK)
	a.Append(4, 6)
	checkErr(t, "behind a comment", a.Text(4, -1, "z"), api.OK)
	if a.Node(6).Text != "" || len(a.Node(4).Kids) != 2 {
		t.Error("a comment took a text")
	}
}

// P14.6: More.
func TestMore(t *testing.T) {
	a := arena.New()
	a.Add(api.Node{Kind: api.NoElement, Attrs: []api.Attr{{Name: "a", Value: "1"}, {Name: "a", Value: "2"}}})
	a.Add(api.Node{Kind: api.NoText})
	a.Add(element("template"))
	checkErr(t, "more", a.More(1, []api.Attr{{Name: "b", Value: "3"}, {Name: "a", Value: "4"}, {Name: "A"}, {Name: "b", Value: "5"}}), api.OK)
	checkErr(t, "nothing", a.More(1, nil), api.OK)
	want := []api.Attr{{Name: "a", Value: "1"}, {Name: "a", Value: "2"}, {Name: "b", Value: "3"}, {Name: "A"}}
	if got := a.Node(1).Attrs; !reflect.DeepEqual(got, want) {
		t.Errorf("attributes: %v", got)
	}
	for _, i := range []int{0, 2, 4, -1, 5, 1 << 62} {
		checkErr(t, "no element", a.More(i, []api.Attr{{Name: "b"}}), api.ErrArg)
		if len(a.Node(i).Attrs) > 0 {
			t.Errorf("node %d has attributes", i)
		}
	}
}

// What arenas that are none tell.
func TestNone(t *testing.T) {
	for _, a := range []*arena.Arena{nil, {}} {
		for _, e := range []api.Errno{a.Append(0, 0), a.Before(0, 0), a.Detach(0), a.Move(0, 0), a.Text(0, -1, "x"), a.More(0, nil)} {
			checkErr(t, "none", e, api.ErrNil)
		}
		if a.Len() != 0 || a.Tree() != nil || a.Add(element("p")) != -1 || a.Len() != 0 || !reflect.DeepEqual(a.Node(0), api.Node{}) {
			t.Error("none tells something")
		}
	}
}

// Lists that are handed in and told are shared by nobody.
func TestShares(t *testing.T) {
	a := grown()
	attrs := []api.Attr{{Name: "x", Value: "1"}}
	i := a.Add(api.Node{Kind: api.NoElement, Attrs: attrs})
	a.Append(0, i)
	a.Append(0, 1)
	attrs[0].Value = "2"
	n, tree := a.Node(i), a.Tree()
	n.Attrs[0].Value, tree[i].Attrs[0].Value = "3", "4"
	a.Node(0).Kids[0] = 9
	tree[0].Kids[1] = 9
	if got := a.Node(i).Attrs; !reflect.DeepEqual(got, []api.Attr{{Name: "x", Value: "1"}}) {
		t.Errorf("attributes: %v", got)
	}
	checkKids(t, a, 0, i, 1)
}

// P14.7: what follows, of whatever is done.
func TestWhatFollows(t *testing.T) {
	r := rand.New(rand.NewSource(14))
	for range 60 {
		a := arena.New()
		for range 200 {
			n := a.Len() + 1
			i, j := r.Intn(n+1)-1, r.Intn(n+1)-1
			was := a.Tree()
			var e api.Errno
			switch r.Intn(9) {
			case 0, 1:
				a.Add(api.Node{Kind: 1 + r.Intn(6), Name: []string{"p", "template"}[r.Intn(2)]})
			case 2, 3:
				e = a.Append(i, j)
			case 4, 5:
				e = a.Before(i, j)
			case 6:
				e = a.Move(i, j)
			case 7:
				e = a.Text(i, j, "x")
			case 8:
				if r.Intn(3) == 0 {
					e = a.Detach(i)
				}
			}
			checkTree(t, a.Tree())
			if tree := a.Tree(); e != api.OK && !reflect.DeepEqual(tree, was) {
				t.Fatalf("%d changed something", e)
			}
		}
	}
}

// checkTree holds a tree against what is promised of all.
func checkTree(t *testing.T, nodes []api.Node) {
	t.Helper()
	owner := map[int]int{}
	for i, n := range nodes {
		if n.Content > 0 {
			owner[n.Content] = i
		}
		if n.Parent >= 0 {
			count := 0
			for _, k := range nodes[n.Parent].Kids {
				if k == i {
					count++
				}
			}
			if count != 1 || n.Kind == api.NoDocument || n.Kind == api.NoContent {
				t.Fatalf("node %d of %d: %d times", i, n.Parent, count)
			}
		}
		for _, k := range n.Kids {
			if nodes[k].Parent != i {
				t.Fatalf("node %d is among the kids of %d", k, i)
			}
		}
	}
	for i := range nodes {
		at, steps := i, 0
		for at >= 0 && steps <= len(nodes) {
			steps++
			if nodes[at].Kind == api.NoContent {
				at = owner[at]
			} else {
				at = nodes[at].Parent
			}
		}
		if steps > len(nodes) {
			t.Fatalf("node %d is above itself", i)
		}
	}
}
