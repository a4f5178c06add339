package raws_test

import (
	"math/rand"
	"reflect"
	"strings"
	"testing"

	"lazaret/api"
	"lazaret/raws"
)

// reader is one of the functions that tell a token.
type reader func(s string, at int) (api.Token, int)

// check asks for what stands at the front, and behind something.
func check(t *testing.T, read reader, s string, want api.Token, next int) {
	t.Helper()
	for _, ahead := range []string{"", "x", "<!--", "é\xff<"} {
		at := len(ahead)
		got, n := read(ahead+s, at)
		want := want
		want.From, want.To = at, at+next
		if n != at+next || !reflect.DeepEqual(got, want) {
			t.Errorf("%q at %d: %+v, %d; want %+v", ahead+s, at, got, n, want)
		}
	}
}

func checkNone(t *testing.T, read reader, s string, at int) {
	t.Helper()
	if got, n := read(s, at); n != 0 || !reflect.DeepEqual(got, api.Token{}) {
		t.Errorf("%q at %d: %+v, %d", s, at, got, n)
	}
}

type piece struct {
	text string
	next int
}

// P11.1: comments.
func TestComment(t *testing.T) {
	for s, want := range map[string]piece{
		"<!--a--!>b": {"a", 9}, "<!-->": {"", 5}, "<!-->x-->": {"", 5}, "<!--->": {"", 6}, "<!--->-->": {"", 6}, "<!--a--": {"a", 7}, "<!--a-->-->": {"a", 8}, "<!--<!-->x": {"<!", 9}, "<!---->": {"", 7}, "<!----!>": {"", 8},
		"<!--": {"", 4}, "<!---": {"", 5}, "<!----": {"", 6}, "<!-----": {"-", 7}, "<!----!": {"", 7}, "<!--a-": {"a", 6}, "<!--a--!": {"a", 8}, "<!--a-!": {"a-!", 7}, "<!--a---!": {"a-", 9}, "<!--a": {"a", 5}, "<!--a->b": {"a->b", 8}, "<!--a- ->": {"a- ->", 9}, "<!-- >": {" >", 6},
		"<!--a--!>b-->": {"a", 9}, "<!--a-->b--!>": {"a", 8}, "<!--a--->": {"a-", 9}, "<!--a--!-->": {"a--!", 11}, "<!--a\x00\xff-->": {"a\ufffd\xff", 10}, "<!--a\x00": {"a\ufffd", 6}, "<!--&amp;-->": {"&amp;", 12}, "<!---!>": {"-!>", 7}, "<!-->-->": {"", 5}, "<!--A\n-->": {"A\n", 9}, "<!--\x00-->": {"\ufffd", 8},
	} {
		check(t, raws.Comment, s, api.Token{Kind: api.ToComment, Text: want.text}, want.next)
	}
	for _, s := range []string{"", "<", "<!", "<!-", "<!-x--", "x<!--", "<! --", "<--", "<?--"} {
		checkNone(t, raws.Comment, s, 0)
	}
	for _, at := range []int{-1, 2, 9, 10, 1 << 62, -1 << 62} {
		checkNone(t, raws.Comment, "a<!--b-->", at)
	}
}

// P11.2: comments where none should stand.
func TestBogus(t *testing.T) {
	for s, want := range map[string]piece{
		"<?x>": {"?x", 4}, "</ a>": {" a", 5}, "<!x>y": {"x", 4}, "<!": {"", 2}, "</": {"", 2}, "<?": {"?", 2}, "<!>": {"", 3}, "</>": {"", 3}, "<?>": {"?", 3}, "<!x": {"x", 3}, "<!\x00>": {"\ufffd", 4}, "<?\x00": {"?\ufffd", 3}, "<!--a-->": {"--a--", 8}, "<![CDATA[a]]>": {"[CDATA[a]]", 13}, "</p>": {"p", 4}, "<!X&amp;'>'": {"X&amp;'", 10},
	} {
		check(t, raws.Bogus, s, api.Token{Kind: api.ToComment, Text: want.text}, want.next)
	}
	for _, s := range []string{"", "<", "<a>", "<>", "< !", "!", "x<!", "< ?"} {
		checkNone(t, raws.Bogus, s, 0)
	}
	for _, at := range []int{-1, 0, 2, 4, 5, 1 << 62, -1 << 62} {
		checkNone(t, raws.Bogus, "a<!b>", at)
	}
}

// P11.3: doctypes.
func TestDoctype(t *testing.T) {
	for s, want := range map[string]struct {
		name   string
		quirks bool
		next   int
	}{
		"<!DOCTYPE HTML>": {"html", false, 15}, "<!doctypex y>": {"x", true, 13}, "<!doctype": {"", true, 9}, "<!doctype>": {"", true, 10}, "<!doctype >": {"", true, 11}, "<!doctype html": {"html", true, 14}, "<!doctype html \t\n\f>x": {"html", false, 19}, "<!DocTypehtml>": {"html", false, 14}, "<!doctype \t\n\fhtml>": {"html", false, 18},
		"<!doctype a\x00B>": {"a\ufffdb", false, 14}, "<!doctype html \r>": {"html", true, 17}, "<!doctype \rhtml>": {"\rhtml", false, 16}, "<!doctype html public \">\">": {"html", true, 24}, "<!doctype é\xff>": {"é\xff", false, 14}, "<!doctype html x": {"html", true, 16}, "<!doctype &amp;>": {"&amp;", false, 16}, "<!doctype x>y>": {"x", false, 12},
	} {
		check(t, raws.Doctype, s, api.Token{Kind: api.ToDoctype, Name: want.name, Quirks: want.quirks}, want.next)
	}
	for _, s := range []string{"", "<!doctyp", "<!doctyp e>", "<doctype>", "<! doctype>", "x<!doctype>", "<!dóctype>"} {
		checkNone(t, raws.Doctype, s, 0)
	}
	for _, at := range []int{-1, 0, 2, 12, 13, 1 << 62, -1 << 62} {
		checkNone(t, raws.Doctype, "a<!doctype b>", at)
	}
}

// P11.4: marked texts.
func TestCData(t *testing.T) {
	read := func(s string, at int) (api.Token, int) {
		text, next := raws.CData(s, at)
		if next == 0 {
			return api.Token{Text: text}, 0
		}
		return api.Token{Text: text, From: at, To: next}, next
	}
	for s, want := range map[string]piece{
		"<![CDATA[a]]]>b": {"a]", 14}, "<![CDATA[": {"", 9}, "<![CDATA[]]>": {"", 12}, "<![CDATA[a]]": {"a]]", 12}, "<![CDATA[a]>b]]>c]]>": {"a]>b", 16}, "<![CDATA[\x00&amp;<b>]]>": {"\x00&amp;<b>", 21}, "<![CDATA[a": {"a", 10}, "<![CDATA[] ]>": {"] ]>", 13},
	} {
		check(t, read, s, api.Token{Text: want.text}, want.next)
	}
	for _, s := range []string{"", "<![CDATA", "<![cdata[a]]>", "<![CData[a]]>", "<! [CDATA[a]]>", "x<![CDATA[a]]>", "<[CDATA[a]]>"} {
		checkNone(t, read, s, 0)
	}
	for _, at := range []int{-1, 0, 2, 14, 15, 1 << 62, -1 << 62} {
		checkNone(t, read, "a<![CDATA[b]]>", at)
	}
}

func checkRaw(t *testing.T, s string, at, state int, name, want string, next int) {
	t.Helper()
	if text, n := raws.Raw(s, at, state, name); text != want || n != next {
		t.Errorf("Raw(%q, %d, %d, %q) = %q, %d; want %q, %d", s, at, state, name, text, n, want, next)
	}
}

// P11.5: raw texts, and those with references.
func TestRaw(t *testing.T) {
	const s = "a&lt;</B >"
	checkRaw(t, s, 0, api.StRCData, "b", "a<", 5)
	checkRaw(t, s, 0, api.StRaw, "b", "a&lt;", 5)
	checkRaw(t, s, 0, api.StRaw, "c", s, 10)
	checkRaw(t, s, 0, api.StPlain, "b", s, 10)
	checkRaw(t, s, 1, api.StRaw, "B", "&lt;", 5)
	checkRaw(t, s, 10, api.StRaw, "b", "", 10)
	checkRaw(t, s, 5, api.StRaw, "b", "", 5)
	checkRaw(t, s, 6, api.StRaw, "b", "/B >", 10)
	for _, at := range []int{-1, 11, 1 << 62, -1 << 62} {
		for state := api.StData; state <= api.StPlain; state++ {
			checkRaw(t, s, at, state, "b", "", at)
		}
	}
	for _, state := range []int{api.StData, -1, 5, 1 << 40} {
		checkRaw(t, s, 0, state, "b", "", 0)
		checkRaw(t, s, 3, state, "b", "", 3)
	}
	for end, ok := range map[string]bool{"</b>": true, "</b ": true, "</b\t": true, "</b\n": true, "</b\f": true, "</b/": true, "</B>": true, "</b\r": false, "</b": false, "</bb>": false, "</ b>": false, "<b>": false, "</a>": false, "</b=": false, "</\x00>": false, "</b\x00>": false, "< /b>": false} {
		want, next := "x&amp;", 6
		if !ok {
			want += strings.ReplaceAll(end, "\x00", "\ufffd")
			next += len(end)
		}
		checkRaw(t, "x&amp;"+end, 0, api.StRaw, "b", want, next)
		checkRaw(t, "x&amp;"+end, 0, api.StRCData, "b", strings.Replace(want, "&amp;", "&", 1), next)
		checkRaw(t, "x&amp;"+end, 0, api.StScript, "b", want, next)
	}
	checkRaw(t, "a</>b", 0, api.StRaw, "", "a", 1)
	checkRaw(t, "\x00&#0;&amp=\xff", 0, api.StRCData, "b", "\ufffd\ufffd&=\xff", 11)
	checkRaw(t, "\x00&#0;", 0, api.StPlain, "b", "\ufffd&#0;", 5)
	checkRaw(t, "\x00", 0, api.StScript, "b", "\ufffd", 1)
	checkRaw(t, "&lt</b>;", 0, api.StRCData, "b", "<", 3)
	checkRaw(t, "", 0, api.StScript, "script", "", 0)
}

// P11.5: scripts; n is where the script ends.
func TestScript(t *testing.T) {
	for s, n := range map[string]int{
		"<!--<script></script></script>": 21, "<!--</script>": 4, "a</script>": 1, "<script></script>": 8, "<!--<script>--></script>": 15, "<!--<script></script>": 21, "<!--<script></script>--></script>": 24, "<!--><script></script>": 13, "<!---><script></script>": 14, "<!-- --><script></script>": 16,
		"<!--<SCRIPT/</Script </sCRIPT\n": 21, "<!--<script\n<!--</script>x</script>": 26, "<!--<scriptx></script>": 13, "<!--<script</script></script>": 11, "<!--<script": 11, "<!--< script></script>": 13, "<!-<script></script>": 11, "<! --<script></script>": 13, "<!--<script>-->": 15, "<!--<script>--><script></script>": 23,
		"<!--<script><script></script></script>": 29, "<!--<script></script ></script/>": 22, "<!--<script></scriptx></script></script>": 31, "<!--<script>--!></script></script>": 25, "<!--<script>- -></script></script>": 25, "<!--a<!--<script></script></script>": 26, "--><script></script>": 11, "<!--<script>--><!--<script></script></script>": 36, "<!--\x00</script>": 5,
	} {
		want := strings.ReplaceAll(s[:n], "\x00", "\ufffd")
		checkRaw(t, s, 0, api.StScript, "script", want, n)
		checkRaw(t, "<!--"+s, 4, api.StScript, "script", want, n+4)
	}
	checkRaw(t, "<!--<script></b></script></b>", 0, api.StScript, "b", "<!--<script></b></script>", 25)
	checkRaw(t, "<!--<b></b></b>", 0, api.StScript, "b", "<!--<b>", 7)
}

// P11.6: what follows.
func TestWhatFollows(t *testing.T) {
	r := rand.New(rand.NewSource(11))
	pieces := []string{"a", "-", "--", ">", "<", "!", "<!--", "-->", "</b>", "<script>", "</script>", "&amp;", "\x00", " ", "]]>", "<!doctype", "<![CDATA[", "é"}
	readers := map[string]reader{"<!--": raws.Comment, "<!": raws.Bogus, "</": raws.Bogus, "<?": raws.Bogus, "<!doctype": raws.Doctype}
	for range 5000 {
		s := ""
		for range r.Intn(9) {
			s += pieces[r.Intn(len(pieces))]
		}
		for front, read := range readers {
			a, n := read(front+s, 0)
			b, m := read("x<"+front+s, 2)
			b.From, b.To = b.From-2, b.To-2
			if n < len(front) || n > len(front+s) || m != n+2 || !reflect.DeepEqual(a, b) {
				t.Fatalf("%q: %+v, %d; %+v, %d", front+s, a, n, b, m)
			}
		}
		if bad := strings.Contains(s, "-->") || strings.Contains(s, "--!>") || strings.HasPrefix(s, ">") || strings.HasPrefix(s, "->") || strings.HasSuffix(s, "-") || strings.HasSuffix(s, "--!"); !bad {
			check(t, raws.Comment, "<!--"+s+"-->x", api.Token{Kind: api.ToComment, Text: strings.ReplaceAll(s, "\x00", "\ufffd")}, len(s)+7)
		}
		for state := api.StRCData; state <= api.StPlain; state++ {
			_, n := raws.Raw(s, 0, state, "b")
			_, m := raws.Raw("<!--<script>"+s, 12, state, "b")
			if n < 0 || n > len(s) || m != n+12 {
				t.Fatalf("Raw of %q: %d, %d", s, n, m)
			}
			if open := strings.NewReplacer("<", "", "&", "", "\x00", "").Replace(s); state != api.StPlain {
				checkRaw(t, open, 0, state, "b", open, len(open))
				checkRaw(t, open+"</b>", 0, state, "b", open, len(open))
			}
		}
	}
}
