package stack_test

import (
	"math/rand"
	"slices"
	"testing"

	"lazaret/api"
	"lazaret/arena"
	"lazaret/kinds"
	"lazaret/stack"
)

// open is a stack of elements, 1, 2, 3 .., of names that may have "svg " or
// "math " ahead.
func open(names ...string) (*arena.Arena, *stack.Stack) {
	a := arena.New()
	s := stack.New(a)
	for _, name := range names {
		s.Push(add(a, name))
	}
	return a, s
}

func add(a *arena.Arena, name string) int {
	n := api.Node{Kind: api.NoElement, Name: name}
	if len(name) > 4 && name[:4] == "svg " {
		n.Name, n.Space = name[4:], api.SpSVG
	} else if len(name) > 5 && name[:5] == "math " {
		n.Name, n.Space = name[5:], api.SpMath
	}
	return a.Add(n)
}

// nodes are the nodes of a stack.
func nodes(s *stack.Stack) []int {
	var list []int
	for k := range s.Len() {
		list = append(list, s.At(k))
	}
	return list
}

func checkNodes(t *testing.T, s *stack.Stack, want ...int) {
	t.Helper()
	if got := nodes(s); !slices.Equal(got, want) {
		t.Errorf("nodes %v, want %v", got, want)
	}
}

func checkErr(t *testing.T, what string, got, want api.Errno) {
	t.Helper()
	if got != want {
		t.Errorf("%s: %d, want %d", what, got, want)
	}
}

// P15.1: New, and what is told of places.
func TestNew(t *testing.T) {
	if stack.New(nil) != nil || stack.New(&arena.Arena{}) != nil {
		t.Error("a stack over no arena")
	}
	_, s := open()
	if s == nil || s.Len() != 0 || s.Top() != -1 || s.At(0) != -1 || s.Index(1) != -1 {
		t.Error("a new stack")
	}
	_, s = open("html", "body", "p")
	s.Push(2)
	for k, want := range map[int]int{-1: -1, 0: 1, 1: 2, 2: 3, 3: 2, 4: -1, 1 << 62: -1, -1 << 62: -1} {
		if got := s.At(k); got != want {
			t.Errorf("At(%d) = %d", k, got)
		}
	}
	for i, want := range map[int]int{-1: -1, 0: -1, 1: 0, 2: 3, 3: 2, 4: -1} {
		if got := s.Index(i); got != want {
			t.Errorf("Index(%d) = %d", i, got)
		}
	}
	if s.Len() != 4 || s.Top() != 2 {
		t.Errorf("%d, top %d", s.Len(), s.Top())
	}
}

// P15.2: Push, Insert, Replace, Pop, Remove.
func TestChanges(t *testing.T) {
	a, s := open("html", "body")
	text := a.Add(api.Node{Kind: api.NoText})
	p := add(a, "p")
	template := add(a, "template")
	for _, i := range []int{-1, 0, text, template + 1, 99, 1 << 62} {
		checkErr(t, "push", s.Push(i), api.ErrArg)
		checkErr(t, "insert", s.Insert(0, i), api.ErrArg)
		checkErr(t, "replace", s.Replace(0, i), api.ErrArg)
	}
	for _, k := range []int{-1, 3, 1 << 62} {
		checkErr(t, "insert", s.Insert(k, p), api.ErrArg)
	}
	for _, k := range []int{-1, 2, 1 << 62} {
		checkErr(t, "replace", s.Replace(k, p), api.ErrArg)
	}
	checkNodes(t, s, 1, 2)
	checkErr(t, "insert", s.Insert(1, p), api.OK)
	checkErr(t, "insert", s.Insert(0, template), api.OK)
	checkErr(t, "insert", s.Insert(4, p), api.OK)
	checkNodes(t, s, template, 1, p, 2, p)
	checkErr(t, "replace", s.Replace(4, 1), api.OK)
	checkErr(t, "replace", s.Replace(0, p), api.OK)
	checkNodes(t, s, p, 1, p, 2, 1)
	checkErr(t, "remove", s.Remove(1), api.OK)
	checkNodes(t, s, p, 1, p, 2)
	for _, i := range []int{0, template, -1, 99} {
		checkErr(t, "remove", s.Remove(i), api.ErrNone)
	}
	checkErr(t, "insert", s.Insert(0, 2), api.OK)
	checkErr(t, "insert", s.Insert(0, template), api.OK)
	checkErr(t, "remove the first one", s.Remove(template), api.OK)
	checkNodes(t, s, 2, p, 1, p, 2)
	checkErr(t, "remove", s.Remove(2), api.OK)
	checkErr(t, "remove the first one", s.Remove(2), api.OK)
	checkErr(t, "remove", s.Remove(2), api.ErrNone)
	checkErr(t, "insert", s.Insert(4-1, 2), api.OK)
	checkNodes(t, s, p, 1, p, 2)
	for _, want := range []int{2, p, 1, p, -1, -1} {
		if got := s.Pop(); got != want {
			t.Errorf("Pop = %d, want %d", got, want)
		}
	}
}

// P15.2: names and spaces are those of the node that stands there.
func TestReplaced(t *testing.T) {
	a, s := open("html", "p")
	s.Replace(1, add(a, "td"))
	if s.Has(kinds.ScNormal, "p") || !s.Has(kinds.ScNormal, "td") || s.Has(kinds.ScNormal, "html") {
		t.Error("replaced")
	}
	s.Insert(2, add(a, "b"))
	if !s.Has(kinds.ScNormal, "b") {
		t.Error("inserted")
	}
}

// P15.2: at most 512.
func TestDepth(t *testing.T) {
	a, s := open()
	i := add(a, "p")
	for range api.MaxDepth {
		checkErr(t, "push", s.Push(i), api.OK)
	}
	checkErr(t, "push", s.Push(i), api.ErrDepth)
	checkErr(t, "push of none", s.Push(0), api.ErrArg)
	checkErr(t, "insert", s.Insert(0, i), api.ErrDepth)
	checkErr(t, "insert at none", s.Insert(513, i), api.ErrArg)
	checkErr(t, "replace", s.Replace(511, i), api.OK)
	if s.Len() != 512 {
		t.Errorf("%d", s.Len())
	}
	s.Pop()
	checkErr(t, "push", s.Push(i), api.OK)
}

// P15.3: Has, and HasNode.
func TestScopes(t *testing.T) {
	_, s := open("html", "table", "td", "p")
	for _, x := range []struct {
		which int
		names []string
		want  bool
	}{
		{kinds.ScNormal, []string{"p"}, true}, {kinds.ScNormal, []string{"td"}, true}, {kinds.ScNormal, []string{"table"}, false}, {kinds.ScNormal, []string{"x", "p"}, true}, {kinds.ScNormal, []string{"table", "html"}, false}, {kinds.ScNormal, nil, false}, {kinds.ScNormal, []string{""}, false}, {kinds.ScNormal, []string{"P"}, false},
		{kinds.ScTable, []string{"td"}, true}, {kinds.ScTable, []string{"table"}, true}, {kinds.ScTable, []string{"html"}, false}, {-1, []string{"html"}, true}, {4, []string{"table"}, true}, {99, []string{"body"}, false},
	} {
		if got := s.Has(x.which, x.names...); got != x.want {
			t.Errorf("Has(%d, %q) = %v", x.which, x.names, got)
		}
	}
	for i, want := range map[int]bool{4: true, 3: true, 2: false, 1: false, 0: false, -1: false} {
		if got := s.HasNode(kinds.ScNormal, i); got != want {
			t.Errorf("HasNode(%d) = %v", i, got)
		}
	}
	if !s.HasNode(kinds.ScTable, 2) || s.HasNode(kinds.ScTable, 1) || !s.HasNode(-1, 1) {
		t.Error("HasNode of other scopes")
	}
	_, s = open("html", "p", "ul", "b")
	if !s.Has(kinds.ScNormal, "p") || s.Has(kinds.ScList, "p") || !s.Has(kinds.ScList, "ul") || !s.Has(kinds.ScButton, "p") {
		t.Error("the scope of lists")
	}
	_, s = open("html", "p", "button", "b")
	if !s.Has(kinds.ScNormal, "p") || s.Has(kinds.ScButton, "p") || !s.Has(kinds.ScList, "p") {
		t.Error("the scope of buttons")
	}
	_, s = open("html", "p", "svg desc", "svg p", "math ul")
	if s.Has(kinds.ScNormal, "p") || s.Has(kinds.ScNormal, "ul") || !s.HasNode(kinds.ScNormal, 4) || !s.Has(kinds.ScTable, "p") || !s.HasNode(kinds.ScNormal, 3) || s.HasNode(kinds.ScNormal, 2) {
		t.Error("other spaces")
	}
	_, s = open("html", "p", "svg td", "svg p")
	if !s.Has(kinds.ScNormal, "p") {
		t.Error("a td of SVG")
	}
}

// P15.4: Until.
func TestUntil(t *testing.T) {
	_, s := open("html", "table", "td", "svg p", "p", "b")
	checkErr(t, "none", s.Until("x", "td "), api.ErrNone)
	checkErr(t, "no names", s.Until(), api.ErrNone)
	checkNodes(t, s, 1, 2, 3, 4, 5, 6)
	checkErr(t, "p", s.Until("td", "p"), api.OK)
	checkNodes(t, s, 1, 2, 3, 4)
	checkErr(t, "no p of HTML", s.Until("p"), api.ErrNone)
	checkErr(t, "td", s.Until("td"), api.OK)
	checkNodes(t, s, 1, 2)
	checkErr(t, "html", s.Until("html"), api.OK)
	checkNodes(t, s)
	checkErr(t, "empty", s.Until("html"), api.ErrNone)
}

// P15.4: Implied, and Thorough.
func TestImplied(t *testing.T) {
	_, s := open("html", "p", "b", "li", "dd", "p", "rt")
	s.Implied("dd")
	checkNodes(t, s, 1, 2, 3, 4, 5)
	s.Implied("x")
	checkNodes(t, s, 1, 2, 3)
	s.Implied("")
	checkNodes(t, s, 1, 2, 3)
	_, s = open("p", "p", "svg p", "p")
	s.Implied("")
	checkNodes(t, s, 1, 2, 3)
	s.Thorough()
	checkNodes(t, s, 1, 2, 3)
	s.Pop()
	s.Implied("p")
	checkNodes(t, s, 1, 2)
	s.Implied("")
	checkNodes(t, s)
	_, s = open("table", "tbody", "tr", "td", "p", "caption", "option")
	s.Implied("")
	checkNodes(t, s, 1, 2, 3, 4, 5, 6)
	s.Thorough()
	checkNodes(t, s, 1)
	_, s = open("html", "table")
	s.Implied("")
	checkNodes(t, s, 1, 2)
}

// What stacks that are none tell.
func TestNone(t *testing.T) {
	for _, s := range []*stack.Stack{nil, {}} {
		for _, e := range []api.Errno{s.Push(0), s.Remove(0), s.Insert(0, 0), s.Replace(0, 0), s.Until("p")} {
			checkErr(t, "none", e, api.ErrNil)
		}
		s.Implied("")
		s.Thorough()
		if s.Pop() != -1 || s.Top() != -1 || s.At(0) != -1 || s.Index(0) != -1 || s.Index(-1) != -1 || s.Len() != 0 || s.Has(0, "p") || s.HasNode(0, -1) {
			t.Error("none tells something")
		}
	}
}

// P15.5: what follows.
func TestWhatFollows(t *testing.T) {
	r := rand.New(rand.NewSource(15))
	names := []string{"p", "li", "td", "table", "ul", "button", "b", "svg p", "svg desc", "math mi", "html", "template", "option"}
	for range 3000 {
		a, s := open()
		var pushed []int
		for range r.Intn(8) {
			i := add(a, names[r.Intn(len(names))])
			s.Push(i)
			pushed = append(pushed, i)
		}
		for _, name := range names {
			normal, list, button, table := s.Has(kinds.ScNormal, name), s.Has(kinds.ScList, name), s.Has(kinds.ScButton, name), s.Has(kinds.ScTable, name)
			if list && !normal || button && !normal || normal && !table {
				t.Fatalf("%q: %v %v %v %v", name, normal, list, button, table)
			}
		}
		switch r.Intn(4) {
		case 0:
			s.Until(names[r.Intn(len(names))])
		case 1:
			s.Implied(names[r.Intn(len(names))])
		case 2:
			s.Thorough()
		}
		if got := nodes(s); !slices.Equal(got, pushed[:len(got)]) {
			t.Fatalf("%v of %v", got, pushed)
		}
		for k := s.Len() - 1; k >= 0; k-- {
			if s.Pop() != pushed[k] {
				t.Fatal("Pop")
			}
		}
	}
}
