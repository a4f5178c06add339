package tokens_test

import (
	"fmt"
	"math/rand"
	"reflect"
	"slices"
	"strings"
	"testing"

	"lazaret/api"
	"lazaret/tokens"
)

// show is a token, in short.
func show(t api.Token) string {
	switch t.Kind {
	case api.ToSpace, api.ToNul, api.ToChars:
		return fmt.Sprintf("%d %q", t.Kind, t.Text)
	case api.ToComment:
		return "!" + t.Text
	case api.ToDoctype:
		return "!!" + t.Name
	case api.ToStart:
		return "<" + t.Name
	case api.ToEnd:
		return "/" + t.Name
	case api.ToEOF:
		return "."
	}
	return "none"
}

// all are the tokens of a lexer, up to the end.
func all(l *tokens.Lexer, cdata bool) []api.Token {
	var list []api.Token
	for {
		t := l.Next(cdata)
		list = append(list, t)
		if t.Kind == api.ToEOF || t.Kind == 0 {
			return list
		}
	}
}

func shown(list []api.Token) []string {
	var texts []string
	for _, t := range list {
		texts = append(texts, show(t))
	}
	return texts
}

func check(t *testing.T, s string, cdata bool, want ...string) {
	t.Helper()
	if got := shown(all(tokens.New(s), cdata)); !slices.Equal(got, append(want, ".")) {
		t.Errorf("%q: %q, want %q", s, got, want)
	}
}

// P12.2: what stands at a place.
func TestNext(t *testing.T) {
	check(t, "", false)
	check(t, "a b<p>&lt;</p></>c", false, `7 "a"`, `5 " "`, `7 "b"`, "<p", `7 "<"`, "/p", `7 "c"`)
	check(t, "<!x><!--y--><?z></1>", false, "!x", "!y", "!?z", "!1")
	check(t, "< 1</", false, `7 "<"`, `5 " "`, `7 "1</"`)
	check(t, "<a b", false)
	check(t, "a<b c='<d>", false, `7 "a"`)
	check(t, "a</b", false, `7 "a"`)
	check(t, "<!DocType a><!doctype", false, "!!a", "!!")
	check(t, "<!doctyp>", false, "!doctyp")
	check(t, "<", false, `7 "<"`)
	check(t, "</", false, `7 "</"`)
	check(t, "<!", false, "!")
	check(t, "<?", false, "!?")
	check(t, "</ ", false, "! ")
	check(t, "</>", false)
	check(t, "</></>a</>", false, `7 "a"`)
	check(t, "a</>b", false, `7 "a"`, `7 "b"`)
	check(t, "a</b>c", false, `7 "a"`, "/b", `7 "c"`)
	check(t, "<1<=<<a>", false, `7 "<1<=<"`, "<a")
	check(t, "a<é<\x00<", false, `7 "a<é<"`, `6 "\x00"`, `7 "<"`)
	check(t, "<!--<!---->-->", false, "!<!--", `7 "-->"`)
	check(t, "<A x=1 x=2/></A>", false, "<a", "/a")
}

// P12.2: classes of characters.
func TestClasses(t *testing.T) {
	check(t, "\t\n\f\r \v\x00\x00a\x01\x7f\xff\xc3é\u00a0 ", false, `5 "\t\n\f\r "`, `7 "\v"`, `6 "\x00\x00"`, fmt.Sprintf("7 %q", "a\x01\x7f\xff\xc3é\u00a0"), `5 " "`)
	check(t, "&amp;a&lt&#32;&#x9;&Tab; &NewLine;&#13;b&#0;&nbsp;", false, `7 "&a<"`, `5 " \t\t \n\r"`, fmt.Sprintf("7 %q", "b\ufffd\u00a0"))
	check(t, "&&amp;&x;&#;&ampx", false, `7 "&&&x;&#;&x"`)
	check(t, "&lt;b>&#60;b>", false, `7 "<b><b>"`)
}

// P12.2: marked texts, if they are asked for.
func TestMarked(t *testing.T) {
	check(t, "<![CDATA[a b]]>", true, `7 "a"`, `5 " "`, `7 "b"`)
	check(t, "<![CDATA[a b]]>", false, "![CDATA[a b]]")
	check(t, "<![cdata[a]]>", true, "![cdata[a]]")
	check(t, "<![CDATA[]]>x", true, `7 "x"`)
	check(t, "<![CDATA[]]><![CDATA[]]>", true)
	check(t, "a<![CDATA[b<c>&amp;\x00]]>d", true, `7 "a"`, `7 "b<c>&amp;"`, `6 "\x00"`, `7 "d"`)
	check(t, "<![CDATA[a", true, `7 "a"`)
	l := tokens.New("x<![CDATA[a b]]>y")
	var places []int
	for _, k := range all(l, true) {
		places = append(places, k.From, k.To)
	}
	if !slices.Equal(places, []int{0, 1, 1, 16, 1, 16, 1, 16, 16, 17, 17, 17}) {
		t.Errorf("places %v", places)
	}
	l = tokens.New("<![CDATA[a]]>b")
	if l.Next(true); l.Left() != 1 {
		t.Errorf("left %d", l.Left())
	}
}

// P12.2: places, and whole tokens.
func TestPlaces(t *testing.T) {
	got := all(tokens.New("a &amp;<P x=y/></>b<!--c--><!doctype D e></q><"), false)
	want := []api.Token{
		{Kind: api.ToChars, Text: "a", From: 0, To: 1},
		{Kind: api.ToSpace, Text: " ", From: 1, To: 2},
		{Kind: api.ToChars, Text: "&", From: 2, To: 7},
		{Kind: api.ToStart, Name: "p", Attrs: []api.Attr{{Name: "x", Value: "y/"}}, From: 7, To: 15},
		{Kind: api.ToChars, Text: "b", From: 18, To: 19},
		{Kind: api.ToComment, Text: "c", From: 19, To: 27},
		{Kind: api.ToDoctype, Name: "d", Quirks: true, From: 27, To: 41},
		{Kind: api.ToEnd, Name: "q", From: 41, To: 45},
		{Kind: api.ToChars, Text: "<", From: 45, To: 46},
		{Kind: api.ToEOF, From: 46, To: 46},
	}
	if !reflect.DeepEqual(got, want) {
		t.Errorf("%+v", got)
	}
	l := tokens.New("a<b c")
	l.Next(false)
	for range 3 {
		if end := l.Next(false); !reflect.DeepEqual(end, api.Token{Kind: api.ToEOF, From: 5, To: 5}) || l.Left() != 0 {
			t.Errorf("end: %+v, %d left", end, l.Left())
		}
	}
}

// P12.3: Raw, and Left.
func TestRaw(t *testing.T) {
	l := tokens.New("a</b>, c")
	if l.Raw(api.StRaw, "b"); l.Left() != 7 {
		t.Errorf("left %d", l.Left())
	}
	if got := shown(all(l, false)); !slices.Equal(got, []string{`7 "a"`, "/b", `7 ","`, `5 " "`, `7 "c"`, "."}) {
		t.Errorf("%q", got)
	}
	l = tokens.New("x<t>a\n\x00&amp;</T>")
	l.Next(false)
	l.Next(false)
	l.Raw(api.StRCData, "t")
	got := all(l, false)
	want := []api.Token{
		{Kind: api.ToChars, Text: "a", From: 4, To: 12},
		{Kind: api.ToSpace, Text: "\n", From: 4, To: 12},
		{Kind: api.ToChars, Text: "\ufffd&", From: 4, To: 12},
		{Kind: api.ToEnd, Name: "t", From: 12, To: 16},
		{Kind: api.ToEOF, From: 16, To: 16},
	}
	if !reflect.DeepEqual(got, want) {
		t.Errorf("%+v", got)
	}
	for _, state := range []int{api.StData, -1, 5} {
		l = tokens.New("a<b>")
		if l.Raw(state, "x"); l.Left() != 4 {
			t.Errorf("state %d: left %d", state, l.Left())
		}
		if got := shown(all(l, false)); !slices.Equal(got, []string{`7 "a"`, "<b", "."}) {
			t.Errorf("state %d: %q", state, got)
		}
	}
	l = tokens.New("a</s><!--<script></s>")
	l.Raw(api.StPlain, "")
	if got := shown(all(l, false)); !slices.Equal(got, []string{`7 "a</s><!--<script></s>"`, "."}) {
		t.Errorf("plain: %q", got)
	}
	l = tokens.New("<!--<script></script></script>x")
	l.Raw(api.StScript, "script")
	if got := shown(all(l, false)); !slices.Equal(got, []string{`7 "<!--<script></script>"`, "/script", `7 "x"`, "."}) {
		t.Errorf("script: %q", got)
	}
}

// P12.3: what is raw waits behind what waits already.
func TestRawWaits(t *testing.T) {
	l := tokens.New("<![CDATA[a b]]> c</x>")
	l.Next(true)
	l.Raw(api.StRaw, "x")
	if got := shown(all(l, false)); !slices.Equal(got, []string{`5 " "`, `7 "b"`, `5 " "`, `7 "c"`, "/x", "."}) {
		t.Errorf("%q", got)
	}
}

// P12.1, and what lexers that are none tell.
func TestNone(t *testing.T) {
	if l := tokens.New("abc"); l == nil || l.Left() != 3 {
		t.Error("New")
	}
	for _, l := range []*tokens.Lexer{nil, {}} {
		l.Raw(api.StPlain, "")
		if got := l.Next(true); !reflect.DeepEqual(got, api.Token{}) || l.Left() != 0 {
			t.Errorf("none: %+v, %d", got, l.Left())
		}
	}
}

// P12.4: what follows.
func TestWhatFollows(t *testing.T) {
	r := rand.New(rand.NewSource(12))
	pieces := []string{"a", " ", "\x00", "<", "</", ">", "<b>", "</b>", "<!", "<!--", "-->", "<?", "</>", "&lt;", "&#0", "<![CDATA[", "]]>", "'", "<!doctype", "é", "\xff", "="}
	for range 5000 {
		s := ""
		for range r.Intn(10) {
			s += pieces[r.Intn(len(pieces))]
		}
		at := 0
		list := all(tokens.New(s), false)
		for _, k := range list {
			between := strings.ReplaceAll(s[at:k.From], "</>", "")
			if k.Kind != api.ToEOF && (between != "" || k.To <= k.From) || k.To < at {
				t.Fatalf("%q: %+v behind %d", s, k, at)
			}
			at = k.To
		}
		if at != len(s) || len(list) > len(s)+1 {
			t.Fatalf("%q: %d tokens up to %d", s, len(list), at)
		}
		if n := len(all(tokens.New(s), true)); n > len(s)+1 {
			t.Fatalf("%q: %d tokens with marked texts", s, n)
		}
		text := ""
		for _, k := range all(tokens.New(strings.NewReplacer("<", "", "&", "").Replace(s)), true) {
			text += k.Text
		}
		if text != strings.NewReplacer("<", "", "&", "").Replace(s) {
			t.Fatalf("%q: %q", s, text)
		}
	}
}
