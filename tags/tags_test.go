package tags_test

import (
	"math/rand"
	"reflect"
	"slices"
	"strings"
	"testing"

	"lazaret/api"
	"lazaret/tags"
)

// read asks for a tag that is all of s, or is followed by an x, or by b>x.
func read(t *testing.T, s string) api.Token {
	t.Helper()
	tag, next, ok := tags.Read(s, 0)
	if !ok || tag.From != 0 || tag.To != next || s[next:] != "" && s[next:] != "x" && s[next:] != "b>x" {
		t.Errorf("Read(%q) = %+v, %d, %v", s, tag, next, ok)
	}
	return tag
}

func checkNone(t *testing.T, s string, at int) {
	t.Helper()
	tag, next, ok := tags.Read(s, at)
	if ok || next != 0 || !reflect.DeepEqual(tag, api.Token{}) {
		t.Errorf("Read(%q, %d) = %+v, %d, %v", s, at, tag, next, ok)
	}
}

// P10.1: attributes, as pairs of names and values.
func TestAttributes(t *testing.T) {
	for s, want := range map[string][]string{
		"<A b=c/d E='&amp;&lt' e f>x": {"b", "c/d", "e", "&<", "f", ""}, "<a/b>": {"b", ""}, "<a =x y = \">\" z=>": {"=x", "", "y", ">", "z", ""}, "<a>": nil, "<a >": nil, "<a/ >": nil, "<a / b>": {"b", ""},
		"<a b>": {"b", ""}, "<a b c>": {"b", "", "c", ""}, "<a b=>": {"b", ""}, "<a b= >": {"b", ""}, "<a b=/>": {"b", "/"}, "<a b=c/>": {"b", "c/"}, "<a b/>": {"b", ""}, "<a b/c>": {"b", "", "c", ""}, "<a b/=c>": {"b", "", "=c", ""},
		"<a b=\"c\"d=e>": {"b", "c", "d", "e"}, "<a b='c'/d>": {"b", "c", "d", ""}, "<a b=\"\" c=''>": {"b", "", "c", ""}, "<a b=\"'>\" c='\"/>'>": {"b", "'>", "c", "\"/>"}, "<a ==b>": {"=", "b"}, "<a ===>": {"=", "="}, "<a b==c>": {"b", "=c"},
		"<a\tB\nC\f=\t\n'D'>": {"b", "", "c", "D"}, "<a b\r=c>": {"b\r", "c"}, "<a b=c\rd>": {"b", "c\rd"}, "<a \"b=c'>": {"\"b", "c'"}, "<a <b>": {"<b", ""}, "<a b=`c`>": {"b", "`c`"}, "<a b=\"a\nb\">": {"b", "a\nb"}, "<a b=c\"d>": {"b", "c\"d"},
		"<a b\x00\x00=c\x00>": {"b\ufffd\ufffd", "c\ufffd"}, "<a \x00='\x00&#0;'>": {"\ufffd", "\ufffd\ufffd"}, "<a é\xff=É\xfe>": {"é\xff", "É\xfe"}, "<a b=&amp;c&ampd&amp d>": {"b", "&c&ampd&", "d", ""}, "<a b=&lt;&#60&#x3c;>": {"b", "<<<"}, "<a b='&lt'>": {"b", "<"}, "<a b='&lt='>": {"b", "&lt="}, "<a b=&notin;&notin>": {"b", "\u2209&notin"}, "<a &amp;=c>": {"&amp;", "c"},
		"<a b=\"<script>\">": {"b", "<script>"}, "<a b = c = d>": {"b", "c", "=", "", "d", ""},
	} {
		var got []string
		for _, a := range read(t, s).Attrs {
			got = append(got, a.Name, a.Value)
		}
		if !slices.Equal(got, want) {
			t.Errorf("Read(%q): %q, want %q", s, got, want)
		}
	}
}

// P10.1: which bytes end names and values, and which do not.
func TestEachByte(t *testing.T) {
	for i := range 256 {
		c := string([]byte{byte(i)})
		blank := strings.Contains("\t\n\f ", c)
		told := strings.ToLower(c)
		if i == 0 || i > 127 {
			told = strings.ReplaceAll(c, "\x00", "\ufffd")
		}
		name := read(t, "<a"+c+"b>x")
		if ends := blank || c == "/" || c == ">"; ends != (name.Name == "a") || !ends && name.Name != "a"+told+"b" {
			t.Errorf("a name with byte %d: %q", i, name.Name)
		}
		if c == ">" {
			continue
		}
		attr := read(t, "<a b"+c+"c>").Attrs
		if whole := len(attr) == 1 && attr[0].Name == "b"+told+"c"; whole == (blank || c == "/" || c == "=") {
			t.Errorf("an attribute's name with byte %d: %+v", i, attr)
		}
		attr = read(t, "<a b=c"+c+"d>").Attrs
		if value := strings.ReplaceAll(c, "\x00", "\ufffd"); (attr[0].Value == "c"+value+"d") == blank {
			t.Errorf("a value with byte %d: %+v", i, attr)
		}
	}
}

// P10.1: of several attributes of one name the first one alone.
func TestTwice(t *testing.T) {
	for s, want := range map[string]bool{
		"<a b b>": true, "<a b=1 B=2>": true, "<a b='1'c b>": true, "<a b c d>": false, "<a>": false, "<a b\x00 b\ufffd>": true, "<a b/b>": true, "<a b É é>": false, "<a = ==>": false, "<a =/=>": true, "<a =b =b>": false, "<a =b/=b>": true,
	} {
		if got := read(t, s); got.Dup != want {
			t.Errorf("Read(%q): %+v", s, got)
		}
	}
	if got := read(t, "<a b=1 c=2 B=3 b c=4 d>").Attrs; !reflect.DeepEqual(got, []api.Attr{{Name: "b", Value: "1"}, {Name: "c", Value: "2"}, {Name: "d"}}) {
		t.Errorf("twice: %+v", got)
	}
}

// P10.1: names, kinds, and tags that close themselves.
func TestNames(t *testing.T) {
	for s, want := range map[string]api.Token{
		"<br/>": {Kind: api.ToStart, Name: "br", Self: true}, "<br />": {Kind: api.ToStart, Name: "br", Self: true}, "<br//>": {Kind: api.ToStart, Name: "br", Self: true}, "<br/ >": {Kind: api.ToStart, Name: "br"}, "<br>x": {Kind: api.ToStart, Name: "br"},
		"</P q=1/>": {Kind: api.ToEnd, Name: "p"}, "</p/>": {Kind: api.ToEnd, Name: "p"}, "</p a a>x": {Kind: api.ToEnd, Name: "p"}, "</p a='>'>": {Kind: api.ToEnd, Name: "p"}, "<H1\n>": {Kind: api.ToStart, Name: "h1"}, "<a<b>": {Kind: api.ToStart, Name: "a<b"}, "<a=b\">": {Kind: api.ToStart, Name: "a=b\""},
		"<A\x00B\rÉ\xff>": {Kind: api.ToStart, Name: "a\ufffdb\rÉ\xff"}, "<z&amp;>": {Kind: api.ToStart, Name: "z&amp;"}, "</a\x00>": {Kind: api.ToEnd, Name: "a\ufffd"},
	} {
		got := read(t, s)
		want.To = got.To
		if len(got.Attrs) != 0 || !reflect.DeepEqual(got, want) {
			t.Errorf("Read(%q) = %+v, want %+v", s, got, want)
		}
	}
}

// P10.1: where no tag begins, or none ends.
func TestNone(t *testing.T) {
	for _, s := range []string{
		"", "<", "</", "<>", "</>", "<1>", "</1>", "< a>", "</ a>", "<!a>", "<?a>", "<é>", "<[>", "<@>", "<`>", "<{>", "<\x00>", "a>", "<//a>", "&lt;a>",
		"<a", "<a ", "<a/", "</a", "</a ", "<a b", "<a b=", "<a b= ", "<a b=c", "<a b=\"c>", "<a b='c>", "<a b=\"c", "<a b=\"c\"", "<a b='", "<a b=\"", "<a b='c\">", "<a \"b='c>", "<a b=c d", "</a b='>", "<a b ", "<a b =",
	} {
		checkNone(t, s, 0)
	}
	for _, at := range []int{-1, -1 << 62, 2, 3, 4, 1 << 62} {
		checkNone(t, "a<b>", at)
	}
}

// P10.1: the places.
func TestPlaces(t *testing.T) {
	s := "é<a b='>'>c</a >"
	for at, to := range map[int]int{2: 11, 12: 17} {
		tag, next, ok := tags.Read(s, at)
		if !ok || tag.From != at || tag.To != to || next != to {
			t.Errorf("Read(%q, %d) = %+v, %d, %v", s, at, tag, next, ok)
		}
	}
	if _, next, _ := tags.Read("<A b=c/d E='&amp;&lt' e f>x", 0); next != 26 {
		t.Errorf("next = %d", next)
	}
}

// P10.2: what is written out is read as it was.
func TestWrittenOut(t *testing.T) {
	r := rand.New(rand.NewSource(10))
	pieces := []string{"a", "=", "&", ">", "<b>", "'", "/", " ", "\n", "&amp;", "é", "lt;", "<script"}
	for range 3000 {
		var want []api.Attr
		s := "<p"
		for i := range r.Intn(4) {
			value := ""
			for range r.Intn(5) {
				value += pieces[r.Intn(len(pieces))]
			}
			name := "n" + string(rune('a'+i))
			want = append(want, api.Attr{Name: name, Value: value})
			s += " " + name + "=\"" + strings.ReplaceAll(value, "&", "&amp;") + "\""
		}
		for _, behind := range []string{">", " na=z>", "/>"} {
			got := read(t, s+behind)
			if len(want) == 0 && behind == " na=z>" {
				continue
			}
			if !slices.Equal(got.Attrs, want) || got.Dup != (behind == " na=z>") {
				t.Fatalf("Read(%q) = %+v, want %+v", s+behind, got, want)
			}
		}
	}
}
