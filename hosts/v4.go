package hosts

import (
	"strconv"
	"strings"

	"lazaret/ascii"
)

// tooBig stands for all numbers that no part of an address can have.
const tooBig = 1 << 32

// labels are the parts of a domain between its dots; a dot may end it.
func labels(d string) []string {
	l := strings.Split(d, ".")
	if last := len(l) - 1; last > 0 && l[last] == "" {
		l = l[:last]
	}
	return l
}

func endsInNumber(d string) bool {
	l := labels(d)
	last := l[len(l)-1]
	if last != "" && only(last, 10) {
		return true
	}
	_, ok := number(last)
	return ok
}

// only tells whether s has digits to that base alone.
func only(s string, base int) bool {
	for i := range len(s) {
		if v, ok := ascii.Hex(s[i]); !ok || v >= base {
			return false
		}
	}
	return true
}

// number is what a label is worth, if it is a number.
func number(label string) (int64, bool) {
	digits, base := ascii.Lower(label), 10
	switch {
	case digits == "":
		return 0, false
	case strings.HasPrefix(digits, "0x"):
		digits, base = digits[2:], 16
	case digits[0] == '0':
		base = 8
	}
	if !only(digits, base) {
		return 0, false
	}
	n := int64(0)
	for i := range len(digits) {
		v, _ := ascii.Hex(digits[i])
		n = min(n*int64(base)+int64(v), tooBig)
	}
	return n, true
}

// readV4 is the address that the labels of d write.
func readV4(d string) (uint32, bool) {
	l := labels(d)
	if len(l) > 4 {
		return 0, false
	}
	address := int64(0)
	for i, label := range l {
		n, ok := number(label)
		most := int64(256)
		if i == len(l)-1 {
			most = 1 << (8 * (5 - len(l)))
		}
		if !ok || n >= most {
			return 0, false
		}
		if i == len(l)-1 {
			address += n
		} else {
			address += n << (24 - 8*i)
		}
	}
	return uint32(address), true
}

func tellV4(address uint32) string {
	parts := make([]string, 0, 4)
	for shift := 24; shift >= 0; shift -= 8 {
		parts = append(parts, strconv.Itoa(int(address>>shift&255)))
	}
	return strings.Join(parts, ".")
}
