package formats_test

import (
	"math/rand"
	"slices"
	"testing"

	"lazaret/api"
	"lazaret/arena"
	"lazaret/formats"
)

const marker = -9 // stands for a marker in lists of entries

func element(a *arena.Arena, name string, attrs ...string) int {
	n := api.Node{Kind: api.NoElement, Name: name}
	for i := 0; i < len(attrs); i += 2 {
		n.Attrs = append(n.Attrs, api.Attr{Name: attrs[i], Value: attrs[i+1]})
	}
	return a.Add(n)
}

// some is a list, and elements: 1 to 4 are b without attributes, 5 is i.
func some() (*arena.Arena, *formats.List) {
	a := arena.New()
	for _, name := range []string{"b", "b", "b", "b", "i"} {
		element(a, name)
	}
	return a, formats.New(a)
}

func entries(l *formats.List) []int {
	var list []int
	for k := range l.Len() {
		i, mark := l.At(k)
		if mark {
			if i != -1 {
				i = -99
			} else {
				i = marker
			}
		}
		list = append(list, i)
	}
	return list
}

func checkEntries(t *testing.T, l *formats.List, want ...int) {
	t.Helper()
	if got := entries(l); !slices.Equal(got, want) {
		t.Errorf("entries %v, want %v", got, want)
	}
}

func checkErr(t *testing.T, what string, got, want api.Errno) {
	t.Helper()
	if got != want {
		t.Errorf("%s: %d, want %d", what, got, want)
	}
}

// P16.1: New, and what is told.
func TestNew(t *testing.T) {
	if formats.New(nil) != nil || formats.New(&arena.Arena{}) != nil {
		t.Error("a list over no arena")
	}
	_, l := some()
	if l == nil || l.Len() != 0 || l.Index(1) != -1 || l.Last("b") != -1 {
		t.Error("a new list")
	}
	l.Push(1)
	l.Push(5)
	l.Mark()
	l.Push(1)
	for k, want := range map[int]int{-1: -1, 0: 1, 1: 5, 2: -1, 3: 1, 4: -1, 1 << 62: -1, -1 << 62: -1} {
		if i, mark := l.At(k); i != want || mark != (k == 2) {
			t.Errorf("At(%d) = %d, %v", k, i, mark)
		}
	}
	for i, want := range map[int]int{-1: -1, 0: -1, 1: 3, 5: 1, 2: -1, 99: -1} {
		if got := l.Index(i); got != want {
			t.Errorf("Index(%d) = %d", i, got)
		}
	}
}

// P16.1: Last.
func TestLast(t *testing.T) {
	a, l := some()
	svg := a.Add(api.Node{Kind: api.NoElement, Name: "b", Space: api.SpSVG})
	for _, i := range []int{1, 2, 5, svg} {
		l.Push(i)
	}
	for name, want := range map[string]int{"b": 2, "i": 5, "u": -1, "": -1, "B": -1} {
		if got := l.Last(name); got != want {
			t.Errorf("Last(%q) = %d", name, got)
		}
	}
	l.Mark()
	if l.Last("b") != -1 {
		t.Error("ahead of a marker")
	}
	l.Push(3)
	if l.Last("b") != 3 || l.Last("i") != -1 || l.Last("") != -1 {
		t.Error("behind a marker")
	}
}

// P16.1, P16.3: the first entry.
func TestFirst(t *testing.T) {
	_, l := some()
	l.Push(1)
	if l.Index(1) != 0 || l.Last("b") != 1 {
		t.Errorf("index %d, last %d", l.Index(1), l.Last("b"))
	}
	checkErr(t, "remove", l.Remove(1), api.OK)
	checkEntries(t, l)
	l.Mark()
	l.Push(2)
	l.Clear()
	checkEntries(t, l)
	l.Mark()
	l.Mark()
	l.Clear()
	checkEntries(t, l, marker)
}

// P16.2: Push, and what goes.
func TestPush(t *testing.T) {
	a, l := some()
	for _, i := range []int{1, 2, 3, 5, 4} {
		checkErr(t, "push", l.Push(i), api.OK)
	}
	checkEntries(t, l, 2, 3, 5, 4)
	checkErr(t, "mark", l.Mark(), api.OK)
	checkErr(t, "push", l.Push(1), api.OK)
	checkEntries(t, l, 2, 3, 5, 4, marker, 1)
	l.Push(1)
	l.Push(1)
	l.Push(2)
	checkEntries(t, l, 2, 3, 5, 4, marker, 1, 1, 2)
	text, template := a.Add(api.Node{Kind: api.NoText}), a.Add(api.Node{Kind: api.NoElement, Name: "template"})
	for _, i := range []int{0, -1, text, template + 1, 99, 1 << 62} {
		checkErr(t, "push of none", l.Push(i), api.ErrArg)
	}
	checkEntries(t, l, 2, 3, 5, 4, marker, 1, 1, 2)
}

// P16.2: which elements are like.
func TestLike(t *testing.T) {
	for _, x := range []struct {
		other api.Node
		like  bool
	}{
		{api.Node{Name: "b", Attrs: []api.Attr{{Name: "x", Value: "1"}, {Name: "y", Value: "2"}}}, true},
		{api.Node{Name: "b", Attrs: []api.Attr{{Name: "y", Value: "2"}, {Name: "x", Value: "1"}}, From: 9, Dup: true}, true},
		{api.Node{Name: "b", Attrs: []api.Attr{{Name: "x", Value: "1"}}}, false},
		{api.Node{Name: "b"}, false},
		{api.Node{Name: "b", Attrs: []api.Attr{{Name: "x", Value: "1"}, {Name: "y", Value: "3"}}}, false},
		{api.Node{Name: "b", Attrs: []api.Attr{{Name: "x", Value: "1"}, {Name: "z", Value: "2"}}}, false},
		{api.Node{Name: "b", Attrs: []api.Attr{{Name: "x", Value: "1"}, {Name: "y", Value: "2"}, {Name: "z"}}}, false},
		{api.Node{Name: "b", Space: api.SpSVG, Attrs: []api.Attr{{Name: "x", Value: "1"}, {Name: "y", Value: "2"}}}, false},
		{api.Node{Name: "B", Attrs: []api.Attr{{Name: "x", Value: "1"}, {Name: "y", Value: "2"}}}, false},
	} {
		a := arena.New()
		l := formats.New(a)
		x.other.Kind = api.NoElement
		other := a.Add(x.other)
		var b [3]int
		for i := range b {
			b[i] = element(a, "b", "x", "1", "y", "2")
		}
		for _, i := range []int{other, b[0], b[1], b[2]} {
			l.Push(i)
		}
		want := []int{other, b[0], b[1], b[2]}
		if x.like {
			want = want[1:]
		}
		checkEntries(t, l, want...)
	}
}

// P16.2: at most 64, but what goes makes room.
func TestMost(t *testing.T) {
	a := arena.New()
	l := formats.New(a)
	var all []int
	for i := range api.MaxFormats {
		name := "b"
		if i > 2 {
			name = "i"
		}
		e := element(a, name, "x", string(rune('a'+i/3)))
		if i < 3 {
			e = element(a, "b")
		}
		all = append(all, e)
		checkErr(t, "push", l.Push(e), api.OK)
	}
	checkEntries(t, l, all...)
	u, b := element(a, "u"), element(a, "b")
	checkErr(t, "push", l.Push(u), api.ErrLong)
	checkErr(t, "mark", l.Mark(), api.ErrLong)
	checkErr(t, "insert", l.Insert(0, u), api.ErrLong)
	checkErr(t, "insert at none", l.Insert(65, u), api.ErrArg)
	checkErr(t, "push of none", l.Push(0), api.ErrArg)
	checkEntries(t, l, all...)
	checkErr(t, "push of one like", l.Push(b), api.OK)
	all = append(all[1:], b)
	checkEntries(t, l, all...)
	checkErr(t, "replace", l.Replace(0, u), api.OK)
	l.Clear()
	checkEntries(t, l)
	for range api.MaxFormats {
		checkErr(t, "mark", l.Mark(), api.OK)
	}
	checkErr(t, "mark", l.Mark(), api.ErrLong)
}

// P16.3: Clear, Remove, Insert, Replace.
func TestChanges(t *testing.T) {
	a, l := some()
	text := a.Add(api.Node{Kind: api.NoText})
	l.Push(1)
	l.Push(5)
	l.Mark()
	l.Mark()
	l.Push(2)
	l.Push(1)
	for _, i := range []int{0, -1, 3, text, 99} {
		checkErr(t, "remove", l.Remove(i), api.ErrNone)
	}
	checkErr(t, "remove", l.Remove(1), api.OK)
	checkEntries(t, l, 1, 5, marker, marker, 2)
	l.Clear()
	checkEntries(t, l, 1, 5, marker)
	l.Clear()
	checkEntries(t, l, 1, 5)
	for _, i := range []int{0, -1, text, 99} {
		checkErr(t, "insert", l.Insert(0, i), api.ErrArg)
		checkErr(t, "replace", l.Replace(0, i), api.ErrArg)
	}
	for _, k := range []int{-1, 3, 1 << 62} {
		checkErr(t, "insert", l.Insert(k, 1), api.ErrArg)
	}
	for _, k := range []int{-1, 2, 1 << 62} {
		checkErr(t, "replace", l.Replace(k, 1), api.ErrArg)
	}
	checkEntries(t, l, 1, 5)
	checkErr(t, "insert", l.Insert(0, 2), api.OK)
	checkErr(t, "insert", l.Insert(2, 3), api.OK)
	checkErr(t, "insert", l.Insert(4, 4), api.OK)
	checkErr(t, "replace", l.Replace(1, 5), api.OK)
	checkEntries(t, l, 2, 5, 3, 5, 4)
	checkErr(t, "insert of many that are like", l.Insert(0, 1), api.OK)
	checkEntries(t, l, 1, 2, 5, 3, 5, 4)
	l.Mark()
	checkErr(t, "replace a marker", l.Replace(6, 5), api.OK)
	checkEntries(t, l, 1, 2, 5, 3, 5, 4, 5)
	l.Clear()
	checkEntries(t, l)
	l.Clear()
	checkEntries(t, l)
}

// What lists that are none tell.
func TestNone(t *testing.T) {
	for _, l := range []*formats.List{nil, {}} {
		for _, e := range []api.Errno{l.Push(0), l.Mark(), l.Remove(0), l.Insert(0, 0), l.Replace(0, 0)} {
			checkErr(t, "none", e, api.ErrNil)
		}
		l.Clear()
		i, mark := l.At(0)
		if i != -1 || mark || l.Len() != 0 || l.Index(-1) != -1 || l.Last("b") != -1 {
			t.Error("none tells something")
		}
	}
}

// P16.4: what follows.
func TestWhatFollows(t *testing.T) {
	r := rand.New(rand.NewSource(16))
	for range 500 {
		a := arena.New()
		l := formats.New(a)
		push := func() {
			attrs := []string{"x", string(rune('0' + r.Intn(2)))}
			l.Push(element(a, []string{"b", "i", "a"}[r.Intn(3)], attrs[:2*r.Intn(2)]...))
		}
		for range r.Intn(30) {
			push()
		}
		alike := map[string]int{}
		for _, i := range entries(l) {
			n := a.Node(i)
			key := n.Name
			for _, x := range n.Attrs {
				key += x.Value
			}
			if alike[key]++; alike[key] > 3 {
				t.Fatalf("four of %q", key)
			}
		}
		was := entries(l)
		l.Mark()
		for range r.Intn(20) {
			push()
		}
		if i := l.Last("b"); i >= 0 {
			for k := l.Index(i); k < l.Len(); k++ {
				if _, mark := l.At(k); mark || l.Index(i) < 0 {
					t.Fatal("Last")
				}
			}
		}
		l.Clear()
		checkEntries(t, l, was...)
	}
}
