package refs_test

import (
	"fmt"
	"testing"

	"lazaret/refs"
)

func check(t *testing.T, s string, at int, attr bool, want string, next int) {
	t.Helper()
	text, n, ok := refs.Find(s, at, attr)
	if text != want || n != next || ok != (next > 0) {
		t.Errorf("Find(%q, %d, %v) = %q, %d, %v; want %q, %d", s, at, attr, text, n, ok, want, next)
	}
}

// both asks in an attribute, too.
func both(t *testing.T, s, want string, next int) {
	t.Helper()
	check(t, s, 0, false, want, next)
	check(t, s, 0, true, want, next)
}

var loose = map[string]rune{
	"amp": 0x26, "AMP": 0x26, "lt": 0x3c, "LT": 0x3c, "gt": 0x3e, "GT": 0x3e, "quot": 0x22, "QUOT": 0x22, "nbsp": 0xa0, "cent": 0xa2, "pound": 0xa3, "yen": 0xa5, "sect": 0xa7, "copy": 0xa9, "COPY": 0xa9,
	"laquo": 0xab, "not": 0xac, "reg": 0xae, "REG": 0xae, "deg": 0xb0, "plusmn": 0xb1, "para": 0xb6, "middot": 0xb7, "raquo": 0xbb, "frac12": 0xbd, "Eacute": 0xc9, "times": 0xd7, "szlig": 0xdf, "eacute": 0xe9, "uuml": 0xfc,
}

var strict = map[string]rune{
	"apos": 0x27, "hellip": 0x2026, "mdash": 0x2014, "ndash": 0x2013, "notin": 0x2209, "colon": 0x3a, "semi": 0x3b, "lpar": 0x28, "rpar": 0x29, "lsqb": 0x5b, "rsqb": 0x5d, "sol": 0x2f, "bsol": 0x5c, "num": 0x23,
	"quest": 0x3f, "equals": 0x3d, "excl": 0x21, "period": 0x2e, "commat": 0x40, "percnt": 0x25, "Tab": 9, "NewLine": 10,
}

// P9.1: all names, with and without a semicolon.
func TestNames(t *testing.T) {
	for name, c := range loose {
		both(t, "&"+name+";", string(c), len(name)+2)
		both(t, "&"+name+";x", string(c), len(name)+2)
		both(t, "&"+name, string(c), len(name)+1)
		both(t, "&"+name+" ", string(c), len(name)+1)
		both(t, "&"+name+"\xff", string(c), len(name)+1)
		for _, behind := range []string{"=", "z", "Z", "0", "9"} {
			check(t, "&"+name+behind, 0, false, string(c), len(name)+1)
			check(t, "&"+name+behind, 0, true, "", 0)
		}
	}
	for name, c := range strict {
		both(t, "&"+name+";", string(c), len(name)+2)
		both(t, "&"+name+";=", string(c), len(name)+2)
		if name != "notin" {
			both(t, "&"+name, "", 0)
			both(t, "&"+name+" ;", "", 0)
		}
	}
}

// P9.1: the longest name, and names that are none.
func TestNone(t *testing.T) {
	check(t, "&notit;", 0, false, "\u00ac", 4)
	check(t, "&notin", 0, false, "\u00ac", 4)
	check(t, "&notin", 0, true, "", 0)
	check(t, "&not;in;", 0, true, "\u00ac", 5)
	check(t, "&ampx;", 0, false, "&", 4)
	check(t, "&ampx;", 0, true, "", 0)
	check(t, "&amp&lt", 0, true, "&", 4)
	for _, s := range []string{"&", "&;", "& amp;", "&Amp;", "&aMP;", "&NOT;", "&a", "&am", "&am;", "&xamp;", "&Copy;", "&tab;", "&newline;", "&newLine;", "&NewLin;", "&unknown;", "&é;", "&\x00", "&&amp;", "&=", "&apo", "&APOS;", "&UUML", "&euro;"} {
		both(t, s, "", 0)
	}
}

// P9.1: numbers.
func TestNumbers(t *testing.T) {
	for s, want := range map[string]struct {
		text string
		next int
	}{
		"&#65;b": {"A", 5}, "&#65b": {"A", 4}, "&#x41g": {"A", 5}, "&#X41;": {"A", 6}, "&#0065;": {"A", 7}, "&#x00000000000000000041;": {"A", 24}, "&#xaF;": {"\u00af", 6}, "&#65": {"A", 4}, "&#65;;": {"A", 5},
		"&#0;": {"\ufffd", 4}, "&#x0": {"\ufffd", 4}, "&#1;": {"\x01", 4}, "&#13;": {"\r", 5}, "&#x7f;": {"\x7f", 6}, "&#x10FFFF;": {"\U0010ffff", 10}, "&#x110000;": {"\ufffd", 10}, "&#1114111;": {"\U0010ffff", 10}, "&#1114112;": {"\ufffd", 10},
		"&#xD7FF;": {"\ud7ff", 8}, "&#xD800;": {"\ufffd", 8}, "&#xDFFF;": {"\ufffd", 8}, "&#xE000;": {"\ue000", 8}, "&#xFFFE;": {"\ufffe", 8}, "&#99999999999999999999999999;": {"\ufffd", 29}, "&#xffffffffffffffffffffffff": {"\ufffd", 27}, "&#18446744073709551681;": {"\ufffd", 23}, "&#x10000000000000041;": {"\ufffd", 21},
		"&#": {}, "&#;": {}, "&#x": {}, "&#x;": {}, "&#a;": {}, "&#xg": {}, "&#-1;": {}, "&# 1;": {}, "&#x-1;": {}, "&#X": {}, "&#xx41;": {}, "&#+1": {},
	} {
		both(t, s, want.text, want.next)
	}
	both(t, "&#65=", "A", 4)
	both(t, "&#65z", "A", 4)
}

// P9.1: the numbers 80 to 9F.
func TestWindows(t *testing.T) {
	others := map[int]rune{
		0x80: 0x20ac, 0x82: 0x201a, 0x83: 0x0192, 0x84: 0x201e, 0x85: 0x2026, 0x86: 0x2020, 0x87: 0x2021, 0x88: 0x02c6, 0x89: 0x2030, 0x8a: 0x0160, 0x8b: 0x2039, 0x8c: 0x0152, 0x8e: 0x017d, 0x91: 0x2018, 0x92: 0x2019, 0x93: 0x201c,
		0x94: 0x201d, 0x95: 0x2022, 0x96: 0x2013, 0x97: 0x2014, 0x98: 0x02dc, 0x99: 0x2122, 0x9a: 0x0161, 0x9b: 0x203a, 0x9c: 0x0153, 0x9e: 0x017e, 0x9f: 0x0178,
	}
	for n := 0x7e; n <= 0xa2; n++ {
		want, ok := others[n]
		if !ok {
			want = rune(n)
		}
		both(t, fmt.Sprintf("&#x%x;", n), string(want), 6)
		s := fmt.Sprintf("&#%d", n)
		both(t, s, string(want), len(s))
	}
}

// P9.1: other places.
func TestPlaces(t *testing.T) {
	const s = "a&lt;&#65;&"
	for at := -3; at < len(s)+3; at++ {
		switch at {
		case 1:
			check(t, s, at, false, "<", 5)
		case 5:
			check(t, s, at, false, "A", 10)
		default:
			check(t, s, at, false, "", 0)
		}
	}
	check(t, s, 1<<62, false, "", 0)
	check(t, s, -1<<62, true, "", 0)
	check(t, "", 0, false, "", 0)
}

// P9.2: what follows.
func TestWhatFollows(t *testing.T) {
	for _, ahead := range []string{"", "&", "&#", "&am", "\xff", "a&amp", "é"} {
		for _, behind := range []string{"", "a", "=", ";", "&", "\x00"} {
			for name, c := range loose {
				check(t, ahead+"&"+name+";"+behind, len(ahead), true, string(c), len(ahead)+len(name)+2)
			}
			for n := 1; n < 0x110000; n += 977 {
				if n >= 0x80 && n <= 0x9f || n >= 0xd800 && n <= 0xdfff {
					continue
				}
				s := fmt.Sprintf("&#%d;", n)
				check(t, ahead+s+behind, len(ahead), false, string(rune(n)), len(ahead)+len(s))
			}
		}
	}
}
