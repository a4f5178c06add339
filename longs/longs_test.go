package longs_test

import (
	"crypto/sha512"
	"encoding/hex"
	"math/rand"
	"strings"
	"testing"

	"lazaret/longs"
)

// P5.1: sums that are known.
func TestKnown(t *testing.T) {
	for _, x := range []struct{ name, got, want string }{
		{"384 of abc", longs.Sum384("abc"), "cb00753f45a35e8bb5a03d699ac65007272c32ab0eded1631a8b605a43ff5bed8086072ba1e7cc2358baeca134c825a7"},
		{"384 of nothing", longs.Sum384(""), "38b060a751ac96384cd9327eb1b1e36a21fdb71114be07434c0cc7bf63f6e1da274edebfe76f65fbd51ad2f14898b95b"},
		{"512 of abc", longs.Sum512("abc"), "ddaf35a193617abacc417349ae20413112e6fa4e89a97ea20a9eeee64b55d39a2192992a274fc1a836ba3c23a3feebbd454d4423643ce80e2a9ac94fa54ca49f"},
		{"512 of nothing", longs.Sum512(""), "cf83e1357eefb8bdf1542850d66d8007d620e4050b5715dc83f4a921d36ce9ce47d0d13c5d85f2b0ff8318d2877eec2f63b931bd47417a81a538327af927da3e"},
	} {
		if got := hex.EncodeToString([]byte(x.got)); got != x.want {
			t.Errorf("%s: %s", x.name, got)
		}
	}
}

// P5.1: every length about the edges of blocks, any bytes.
func TestLengths(t *testing.T) {
	r := rand.New(rand.NewSource(5))
	for n := range 600 {
		b := make([]byte, n)
		r.Read(b)
		want384, want512 := sha512.Sum384(b), sha512.Sum512(b)
		if got := longs.Sum384(string(b)); got != string(want384[:]) {
			t.Errorf("Sum384 of %d bytes = %x, want %x", n, got, want384)
		}
		if got := longs.Sum512(string(b)); got != string(want512[:]) {
			t.Errorf("Sum512 of %d bytes = %x, want %x", n, got, want512)
		}
	}
}

// P5.1: a long text, whose length in bits takes more than two bytes.
func TestLong(t *testing.T) {
	s := strings.Repeat("a\x00\xff", 50000)
	want384, want512 := sha512.Sum384([]byte(s)), sha512.Sum512([]byte(s))
	if longs.Sum384(s) != string(want384[:]) || longs.Sum512(s) != string(want512[:]) {
		t.Error("long")
	}
}
