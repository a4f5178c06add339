package texts_test

import (
	"math/rand"
	"strings"
	"testing"
	"unicode/utf8"

	"lazaret/texts"
)

const (
	mark = "\xef\xbb\xbf"
	x    = "\xef\xbf\xbd"
)

// P1.1: what characters' bytes are, at the edges of each range.
func TestDecodeKeepsCharacters(t *testing.T) {
	for _, b := range []string{
		"", "\x00", "a", "\x7f", "abc",
		"\xc2\x80", "\xdf\xbf", "\xc3\xa9",
		"\xe0\xa0\x80", "\xe0\xbf\xbf", "\xe1\x80\x80", "\xec\xbf\xbf",
		"\xed\x80\x80", "\xed\x9f\xbf", "\xee\x80\x80", "\xef\xbf\xbf", "\xef\xbf\xbd",
		"\xf0\x90\x80\x80", "\xf0\xbf\xbf\xbf", "\xf1\x80\x80\x80", "\xf3\xbf\xbf\xbf",
		"\xf4\x80\x80\x80", "\xf4\x8f\xbf\xbf",
		"a\xc3\xa9b\xe2\x82\xacc\xf0\x9f\x98\x80d\r\n",
	} {
		if got := texts.Decode(b); got != b {
			t.Errorf("Decode(%x) = %x", b, got)
		}
	}
}

// P1.1: each broken part, as long as it can be, is one U+FFFD.
func TestDecodeBrokenParts(t *testing.T) {
	for b, want := range map[string]string{
		"\x80": x, "\xbf": x, "\xc0": x, "\xc1\xbf": x + x, "\xf5\x80": x + x, "\xff": x, "\xfe": x,
		"\xc2": x, "\xc2a": x + "a", "\xc2\x7f": x + "\x7f", "\xc2\xc0": x + x, "\xdf\xdf\xbf": x + "\xdf\xbf",
		"\xe0": x, "\xe0\x80a": x + x + "a", "\xe0\x9f\xbf": x + x + x, "\xe0\xa0": x, "\xe0\xa0a": x + "a",
		"\xe1\x80": x, "\xe1\x7f\x80": x + "\x7f" + x, "\xec\xbf\xc0": x + x,
		"\xed\xa0\x80": x + x + x, "\xed\xbf\xbf": x + x + x, "\xed\x9f": x,
		"\xef\xbf": x, "\xee\x80a": x + "a",
		"\xf0": x, "\xf0\x8f\xbf\xbf": x + x + x + x, "\xf0\x90\x80": x, "\xf0\x9f\x98": x, "\xf0\x9fa": x + "a", "\xf0\x9f\x98a": x + "a",
		"\xf1\x80\x80\x7f": x + "\x7f", "\xf3\xbf\xbf\xf3\xbf\xbf\xbf": x + "\xf3\xbf\xbf\xbf",
		"\xf4\x90\x80\x80": x + x + x + x, "\xf4\x8f\xbf": x, "\xf4\x8fa": x + "a",
		"a\xffb\xfec": "a" + x + "b" + x + "c",
	} {
		if got := texts.Decode(b); got != want {
			t.Errorf("Decode(%x) = %x, want %x", b, got, want)
		}
	}
}

// two is what two bytes are decoded to, told by the library's idea of what may
// still become a character.
func two(a, b byte) string {
	s := string([]byte{a, b})
	switch {
	case utf8.ValidString(s):
		return s
	case a < 0x80:
		return string(rune(a)) + x
	case !utf8.FullRuneInString(s):
		return x
	case b < 0x80:
		return x + string(rune(b))
	}
	return x + x
}

// P1.1: every pair of bytes, and what the bytes behind it make of it.
func TestDecodePairs(t *testing.T) {
	for a := range 256 {
		for b := range 256 {
			s := string([]byte{byte(a), byte(b)})
			want := two(byte(a), byte(b))
			if got := texts.Decode(s); got != want {
				t.Errorf("Decode(%x) = %x, want %x", s, got, want)
			}
			if got := texts.Decode(s + "a"); got != want+"a" {
				t.Errorf("Decode(%x61) = %x, want %x", s, got, want)
			}
			for _, more := range []string{"\x80", "\x80\x80"} {
				if whole := s + more; utf8.ValidString(whole) && utf8.RuneCountInString(whole) == 1 && texts.Decode(whole+"a") != strings.TrimPrefix(whole, mark)+"a" {
					t.Errorf("Decode(%x) = %x", whole, texts.Decode(whole))
				}
			}
		}
	}
}

// P1.1: the mark goes from the front alone, and once.
func TestDecodeMark(t *testing.T) {
	for b, want := range map[string]string{
		mark: "", mark + "a": "a", mark + "a" + mark: "a" + mark, mark + mark: mark,
		"a" + mark: "a" + mark, "\xef\xbb": x, "\xef\xbba": x + "a", mark + "\xbf": x,
	} {
		if got := texts.Decode(b); got != want {
			t.Errorf("Decode(%x) = %x, want %x", b, got, want)
		}
	}
}

// P1.2: lines.
func TestLines(t *testing.T) {
	for s, want := range map[string]string{
		"": "", "a": "a", "\n": "\n", "\r": "\n", "\r\n": "\n", "\n\r": "\n\n", "\r\r": "\n\n", "\r\r\n": "\n\n", "\n\n": "\n\n",
		"a\r\n\rb\n\r": "a\n\nb\n\n", "\x0b\x0c\u2028": "\x0b\x0c\u2028", "\xff\r": "\xff\n", "a\\r": "a\\r",
	} {
		if got := texts.Lines(s); got != want {
			t.Errorf("Lines(%q) = %q, want %q", s, got, want)
		}
	}
}

// noise is a text of some bytes that are likely to make characters, and breaks.
func noise(r *rand.Rand) string {
	const some = "a\r\n\x80\x8f\x90\x9f\xa0\xbf\xc1\xc2\xe0\xe1\xed\xef\xbb\xbf\xf0\xf1\xf4\xf5"
	b := make([]byte, r.Intn(12))
	for i := range b {
		b[i] = some[r.Intn(len(some))]
	}
	return string(b)
}

// P1.3: what follows.
func TestWhatFollows(t *testing.T) {
	r := rand.New(rand.NewSource(1))
	for range 20000 {
		a, b := noise(r), noise(r)
		d := texts.Decode(a)
		if !utf8.ValidString(d) {
			t.Fatalf("Decode(%x) = %x is broken", a, d)
		}
		if texts.Decode(d) != strings.TrimPrefix(d, mark) {
			t.Fatalf("Decode(%x) is not what it was", d)
		}
		if !strings.HasPrefix(b, mark) && utf8.ValidString(a) && texts.Decode(a+b) != d+texts.Decode(b) {
			t.Fatalf("Decode of %x and %x", a, b)
		}
		l := texts.Lines(a)
		if strings.Contains(l, "\r") || len(l) > len(a) || texts.Lines(l) != l {
			t.Fatalf("Lines(%q) = %q", a, l)
		}
	}
}
