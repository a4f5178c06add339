package ascii_test

import (
	"math/rand"
	"slices"
	"strings"
	"testing"

	"lazaret/ascii"
)

// P2.1: every byte.
func TestBytes(t *testing.T) {
	const (
		letters = "ABCDEFGHIJKLMNOPQRSTUVWXYZabcdefghijklmnopqrstuvwxyz"
		digits  = "0123456789"
		worth   = "0123456789abcdef"
	)
	for i := range 256 {
		c := byte(i)
		in := func(list string) bool { return strings.IndexByte(list, c) >= 0 }
		if ascii.Space(c) != in("\t\n\f\r ") {
			t.Errorf("Space(%d)", c)
		}
		if ascii.Alpha(c) != in(letters) {
			t.Errorf("Alpha(%d)", c)
		}
		if ascii.Digit(c) != in(digits) {
			t.Errorf("Digit(%d)", c)
		}
		want, ok := strings.IndexByte(worth, c), true
		if want < 0 {
			want = strings.IndexByte("ABCDEF", c) + 10
		}
		if !in(worth) && !in("ABCDEF") {
			want, ok = 0, false
		}
		if v, got := ascii.Hex(c); v != want || got != ok {
			t.Errorf("Hex(%d) = %d, %v", c, v, got)
		}
	}
}

// P2.2: Lower changes A to Z alone.
func TestLower(t *testing.T) {
	for s, want := range map[string]string{
		"": "", "AbZ[": "abz[", "@AZ[`az{": "@az[`az{", "0-9": "0-9", "É\xc1\xff": "É\xc1\xff", "\u212aK": "\u212ak", "A\x00B": "a\x00b",
	} {
		if got := ascii.Lower(s); got != want {
			t.Errorf("Lower(%q) = %q", s, got)
		}
	}
	for i := range 256 {
		c := byte(i)
		want := c
		if c >= 65 && c <= 90 {
			want = c + 32
		}
		if got := ascii.Lower(string([]byte{c})); got != string([]byte{want}) {
			t.Errorf("Lower of byte %d = %q", c, got)
		}
	}
}

// P2.2: Same.
func TestSame(t *testing.T) {
	for _, x := range []struct {
		a, b string
		want bool
	}{
		{"", "", true}, {"Aa", "aA", true}, {"a", "", false}, {"a", "ab", false}, {"k", "\u212a", false}, {"s", "\u017f", false},
		{"\xe9", "\xc9", false}, {"[", "{", false}, {"@", "`", false}, {"abc", "ABD", false}, {"Z-9", "z-9", true},
	} {
		if ascii.Same(x.a, x.b) != x.want || ascii.Same(x.b, x.a) != x.want {
			t.Errorf("Same(%q, %q) != %v", x.a, x.b, x.want)
		}
	}
}

// P2.3: Strip.
func TestStrip(t *testing.T) {
	for s, want := range map[string]string{
		"": "", " ": "", "\t\n\f\r ": "", " a\tbc\r": "a\tbc", "a": "a", "  a b  ": "a b", "\va\v": "\va\v", "\u00a0a": "\u00a0a", "\x00 ": "\x00", "a ": "a", " a": "a",
	} {
		if got := ascii.Strip(s); got != want {
			t.Errorf("Strip(%q) = %q", s, got)
		}
	}
}

// P2.3: Fields and Commas.
func TestPieces(t *testing.T) {
	for s, want := range map[string][]string{
		"": nil, " ": nil, " a\tbc\r": {"a", "bc"}, "a": {"a"}, "a\fb\nc  d": {"a", "b", "c", "d"}, "a,b c": {"a,b", "c"}, "a\vb": {"a\vb"}, "a\u00a0b\u0085c": {"a\u00a0b\u0085c"}, "\x00": {"\x00"},
	} {
		if got := ascii.Fields(s); !slices.Equal(got, want) {
			t.Errorf("Fields(%q) = %q", s, got)
		}
	}
	for s, want := range map[string][]string{
		"": nil, ",": nil, " , \t,": nil, " a,,b c,": {"a", "b c"}, "a": {"a"}, " a ": {"a"}, "a;b, c": {"a;b", "c"}, ",a": {"a"}, "a,b,a": {"a", "b", "a"}, "a\u00a0,b": {"a\u00a0", "b"},
	} {
		if got := ascii.Commas(s); !slices.Equal(got, want) {
			t.Errorf("Commas(%q) = %q", s, got)
		}
	}
}

// P2.4: what follows.
func TestWhatFollows(t *testing.T) {
	r := rand.New(rand.NewSource(2))
	const some = "aAzZ09 \t\n\f\r,,;\x00\x80\xff[`"
	for range 5000 {
		b := make([]byte, r.Intn(14))
		for i := range b {
			b[i] = some[r.Intn(len(some))]
		}
		s := string(b)
		l := ascii.Lower(s)
		if ascii.Lower(l) != l || len(l) != len(s) {
			t.Fatalf("Lower(%q) = %q", s, l)
		}
		f := ascii.Fields(s)
		if got := ascii.Fields(strings.Join(f, " ")); !slices.Equal(got, f) || slices.Contains(f, "") {
			t.Fatalf("Fields(%q) = %q, then %q", s, f, got)
		}
		c := ascii.Commas(s)
		if got := ascii.Commas(strings.Join(c, ",")); !slices.Equal(got, c) || slices.Contains(c, "") {
			t.Fatalf("Commas(%q) = %q, then %q", s, c, got)
		}
	}
}
