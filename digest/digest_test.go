package digest_test

import (
	"crypto/sha256"
	"encoding/hex"
	"math/rand"
	"strings"
	"testing"

	"lazaret/digest"
)

// P4.1: sums that are known.
func TestKnown(t *testing.T) {
	for s, want := range map[string]string{
		"":    "e3b0c44298fc1c149afbf4c8996fb92427ae41e4649b934ca495991b7852b855",
		"abc": "ba7816bf8f01cfea414140de5dae2223b00361a396177a9cb410ff61f20015ad",
		"abcdbcdecdefdefgefghfghighijhijkijkljklmklmnlmnomnopnopq": "248d6a61d20638b8e5c026930c3e6039a33ce45964ff2167f6ecedd419db06c1",
		strings.Repeat("a", 1000000):                               "cdc76e5c9914fb9281a1c7e284d73e67f1809a48a497200e046d39ccc7112cd0",
	} {
		got := digest.Sum(s)
		if hex.EncodeToString([]byte(got)) != want {
			t.Errorf("Sum of %d bytes = %x", len(s), got)
		}
	}
}

// P4.1: every length about the edges of blocks, any bytes.
func TestLengths(t *testing.T) {
	r := rand.New(rand.NewSource(4))
	for n := range 400 {
		b := make([]byte, n)
		r.Read(b)
		want := sha256.Sum256(b)
		if got := digest.Sum(string(b)); got != string(want[:]) {
			t.Errorf("Sum of %d bytes = %x, want %x", n, got, want)
		}
	}
}

// P4.1: bytes that are no text, and sums that are asked twice.
func TestAgain(t *testing.T) {
	for _, s := range []string{"\x00", "\xff\xfe", "\x80", strings.Repeat("\x00", 64), "é\x00"} {
		want := sha256.Sum256([]byte(s))
		if digest.Sum(s) != string(want[:]) || digest.Sum(s) != digest.Sum(s) {
			t.Errorf("Sum(%x)", s)
		}
	}
}
