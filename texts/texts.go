// Package texts is layer 1: bytes as a text in UTF-8, and its lines.
package texts

import "strings"

const (
	mark        = "\xef\xbb\xbf" // U+FEFF, which may stand in front of a text
	replacement = "\xef\xbf\xbd" // U+FFFD, which stands for a broken part
)

// A lead is a range of first bytes whose characters have the same shape: the
// second byte is one of low to high, each byte behind it one of 80 to BF.
type lead struct {
	from, to, low, high byte
	size                int
}

var leads = [...]lead{
	{0x00, 0x7f, 0x80, 0xbf, 1},
	{0xc2, 0xdf, 0x80, 0xbf, 2},
	{0xe0, 0xe0, 0xa0, 0xbf, 3},
	{0xe1, 0xec, 0x80, 0xbf, 3},
	{0xed, 0xed, 0x80, 0x9f, 3},
	{0xee, 0xef, 0x80, 0xbf, 3},
	{0xf0, 0xf0, 0x90, 0xbf, 4},
	{0xf1, 0xf3, 0x80, 0xbf, 4},
	{0xf4, 0xf4, 0x80, 0x8f, 4},
}

// Decode is the text of some bytes: characters as they are, U+FFFD for each
// broken part, and nothing for a mark in front.
func Decode(b string) string {
	b = strings.TrimPrefix(b, mark)
	var out strings.Builder
	for i := 0; i < len(b); {
		n, whole := piece(b[i:])
		if whole {
			out.WriteString(b[i : i+n])
		} else {
			out.WriteString(replacement)
		}
		i += n
	}
	return out.String()
}

// piece tells how many bytes at the front of s, which is not empty, are a
// character or a broken part, and whether they are a whole character.
func piece(s string) (n int, whole bool) {
	for _, l := range leads {
		if s[0] >= l.from && s[0] <= l.to {
			return follow(s, l)
		}
	}
	return 1, false
}

// follow goes on behind a first byte as far as the bytes can be its character's.
func follow(s string, l lead) (n int, whole bool) {
	low, high := l.low, l.high
	for n = 1; n < l.size; n++ {
		if n == len(s) || s[n] < low || s[n] > high {
			return n, false
		}
		low, high = 0x80, 0xbf
	}
	return n, true
}

// Lines is s with a line feed for each carriage return, and for each pair of
// a carriage return and a line feed.
func Lines(s string) string {
	s = strings.ReplaceAll(s, "\r\n", "\n")
	return strings.ReplaceAll(s, "\r", "\n")
}
