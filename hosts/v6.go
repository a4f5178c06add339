package hosts

import (
	"strconv"
	"strings"
)

// readV6 is the address that is written as pieces between colons; two colons
// stand for as many pieces 0 as lack.
func readV6(s string) ([8]uint16, bool) {
	var address [8]uint16
	left, right, short := strings.Cut(s, "::")
	head, ok := readPieces(left, !short)
	if !ok || !short && len(head) != 8 {
		return address, false
	}
	copy(address[:], head)
	if !short {
		return address, true
	}
	tail, ok := readPieces(right, true)
	if !ok || len(head)+len(tail) > 7 {
		return [8]uint16{}, false
	}
	copy(address[8-len(tail):], tail)
	return address, true
}

// readPieces are the pieces of a text (none, if it is empty), of which the last
// one may be written as four decimal numbers, if it is the address's last.
func readPieces(s string, last bool) ([]uint16, bool) {
	var pieces []uint16
	if s == "" {
		return pieces, true
	}
	texts := strings.Split(s, ":")
	for i, text := range texts {
		if last && i == len(texts)-1 && strings.Contains(text, ".") {
			high, low, ok := readDotted(text)
			return append(pieces, high, low), ok
		}
		if text == "" || len(text) > 4 || !only(text, 16) {
			return nil, false
		}
		n, _ := strconv.ParseUint(text, 16, 16)
		pieces = append(pieces, uint16(n))
	}
	return pieces, true
}

// readDotted is two pieces that are written as four decimal numbers.
func readDotted(s string) (high, low uint16, ok bool) {
	parts := strings.Split(s, ".")
	if len(parts) != 4 {
		return 0, 0, false
	}
	all := uint32(0)
	for _, part := range parts {
		if part == "" || len(part) > 3 || !only(part, 10) || len(part) > 1 && part[0] == '0' {
			return 0, 0, false
		}
		n, _ := strconv.Atoi(part)
		if n > 255 {
			return 0, 0, false
		}
		all = all<<8 | uint32(n)
	}
	return uint16(all >> 16), uint16(all), true
}

func tellV6(address [8]uint16) string {
	from, size := longestRun(address)
	if size < 2 {
		return tellPieces(address[:])
	}
	return tellPieces(address[:from]) + "::" + tellPieces(address[from+size:])
}

func tellPieces(pieces []uint16) string {
	var texts []string
	for _, p := range pieces {
		texts = append(texts, strconv.FormatUint(uint64(p), 16))
	}
	return strings.Join(texts, ":")
}

// longestRun is the longest run of pieces 0, the first of several.
func longestRun(address [8]uint16) (from, size int) {
	run := 0
	for i, p := range address {
		if p != 0 {
			run = 0
			continue
		}
		if run++; run > size {
			from, size = i+1-run, run
		}
	}
	return from, size
}
