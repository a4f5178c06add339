package percent_test

import (
	"fmt"
	"math/rand"
	"strings"
	"testing"

	"lazaret/percent"
)

// P6.1: Decode.
func TestDecode(t *testing.T) {
	for s, want := range map[string]string{
		"": "", "a": "a", "%41%4": "A%4", "%zz%2%62": "%zz%2b", "%": "%", "%%41": "%A", "%4%41": "%4A", "%2541": "%41",
		"%e9%C3%a9": "\xe9\xc3\xa9", "%00%fF": "\x00\xff", "%4g%g4": "%4g%g4", "+a b": "+a b", "%4\x00": "%4\x00", "é%": "é%",
	} {
		if got := percent.Decode(s); got != want {
			t.Errorf("Decode(%q) = %q", s, got)
		}
	}
	for i := range 256 {
		for _, form := range []string{"%%%02x", "%%%02X"} {
			if got := percent.Decode(fmt.Sprintf(form, i)); got != string([]byte{byte(i)}) {
				t.Errorf("Decode of %02x = %q", i, got)
			}
		}
	}
}

// P6.2: the sets have these numbers, and these bytes, each.
func TestSets(t *testing.T) {
	const query = " \"#<>"
	const path = query + "?^`{}"
	const user = path + "/:;=@[\\]|"
	for set, more := range []string{"", " \"<>`", query, query + "'", path, user, user + "$%&+,"} {
		for i := range 256 {
			c := byte(i)
			want := string([]byte{c})
			if c < 32 || c > 126 || strings.IndexByte(more, c) >= 0 {
				want = fmt.Sprintf("%%%02X", c)
			}
			if got := percent.Encode(string([]byte{c}), set); got != want {
				t.Errorf("set %d: byte %d = %q, want %q", set, c, got, want)
			}
		}
	}
	if percent.SetControl != 0 || percent.SetFragment != 1 || percent.SetQuery != 2 || percent.SetSpecial != 3 || percent.SetPath != 4 || percent.SetUser != 5 || percent.SetComponent != 6 {
		t.Error("the sets' numbers")
	}
}

// P6.2: texts, and sets that are none.
func TestEncode(t *testing.T) {
	for _, x := range []struct {
		s    string
		set  int
		want string
	}{
		{"a b/%é", percent.SetPath, "a%20b/%%C3%A9"}, {"a b/%é", percent.SetComponent, "a%20b%2F%25%C3%A9"},
		{"", percent.SetPath, ""}, {"a", -1, ""}, {"a", 7, ""}, {"a", 1 << 40, ""}, {"\x00\x7f", percent.SetControl, "%00%7F"},
		{"%41", percent.SetUser, "%41"}, {"'", percent.SetSpecial, "%27"}, {"'", percent.SetQuery, "'"},
	} {
		if got := percent.Encode(x.s, x.set); got != x.want {
			t.Errorf("Encode(%q, %d) = %q", x.s, x.set, got)
		}
	}
}

// P6.3: what follows.
func TestWhatFollows(t *testing.T) {
	r := rand.New(rand.NewSource(6))
	const some = "%%%0419afAFgz /?#é\x00\xff'|"
	noise := func() string {
		b := make([]byte, r.Intn(10))
		for i := range b {
			b[i] = some[r.Intn(len(some))]
		}
		return string(b)
	}
	for range 5000 {
		a, b := noise(), noise()
		for set := percent.SetControl; set < percent.SetComponent; set++ {
			once := percent.Encode(a, set)
			if percent.Encode(once, set) != once {
				t.Fatalf("Encode twice of %q by %d", a, set)
			}
		}
		if percent.Decode(percent.Encode(a, percent.SetComponent)) != a {
			t.Fatalf("Encode and Decode of %q", a)
		}
		if end := a[max(0, len(a)-2):]; !strings.Contains(end, "%") && percent.Decode(a+b) != percent.Decode(a)+percent.Decode(b) {
			t.Fatalf("Decode of %q and %q", a, b)
		}
	}
}
