package base_test

import (
	"encoding/base64"
	"math/rand"
	"strings"
	"testing"

	"lazaret/api"
	"lazaret/base"
)

const letters = "ABCDEFGHIJKLMNOPQRSTUVWXYZabcdefghijklmnopqrstuvwxyz0123456789+/"

// P3.1: Encode.
func TestEncode(t *testing.T) {
	for s, want := range map[string]string{
		"": "", "f": "Zg==", "fo": "Zm8=", "foo": "Zm9v", "foob": "Zm9vYg==", "fooba": "Zm9vYmE=", "foobar": "Zm9vYmFy",
		"\xff\xef": "/+8=", "\x00": "AA==", "\x00\x00\x00": "AAAA", "\xff\xff\xff": "////", "\xfb": "+w==",
	} {
		if got := base.Encode(s); got != want {
			t.Errorf("Encode(%x) = %q", s, got)
		}
	}
	for i := range 256 {
		for _, s := range []string{string([]byte{byte(i)}), string([]byte{'a', byte(i)}), string([]byte{'a', 'b', byte(i), byte(255 - i)})} {
			if got := base.Encode(s); got != base64.StdEncoding.EncodeToString([]byte(s)) {
				t.Errorf("Encode(%x) = %q", s, got)
			}
		}
	}
}

// P3.2: what is decoded.
func TestDecode(t *testing.T) {
	for s, want := range map[string]string{
		"": "", "Zg": "f", "Zg==": "f", "Zm8": "fo", "Zm8=": "fo", "Zm9v": "foo", "Zm9vYg==": "foob", "Zm9vYg": "foob",
		"_-8": "\xff\xef", "_-8=": "\xff\xef", "/+8=": "\xff\xef", "_+8": "\xff\xef", "AA": "\x00", "____": "\xff\xff\xff",
	} {
		if got, e := base.Decode(s); got != want || e != api.OK {
			t.Errorf("Decode(%q) = %x, %d", s, got, e)
		}
	}
}

// P3.2: what is no base64.
func TestDecodeErrors(t *testing.T) {
	for _, s := range []string{
		"Zg=", "Zh", "Zh==", "Z", "Z g", "====", "===", "==", "=", "Z===", "Zm9v=", "Zm9v==", "Zm9v====", "Zm9vY", "Zm9=", "Zm9", "Zm8==", "Zm8=Zm8=",
		"Zg==\n", " Zg=", "Zm9.", "Zm9,", "Zm\x00v", "Zm9\xff", "Z=g=", "=Zg=", "Zm9v\n", "@@@@", "[[[[", "````", "{{{{", "::::", "....",
	} {
		if got, e := base.Decode(s); got != "" || e != api.ErrBase {
			t.Errorf("Decode(%q) = %x, %d", s, got, e)
		}
	}
	for i := range 256 {
		c := string([]byte{byte(i)})
		_, e := base.Decode("AAA" + c)
		if ok := c != "=" && strings.Contains(letters+"-_", c) || c == "="; (e == api.OK) != ok {
			t.Errorf("Decode with byte %d: %d", i, e)
		}
	}
}

// P3.2: the bits that are left over are 0.
func TestDecodeLeftOver(t *testing.T) {
	for i := range 64 {
		_, two := base.Decode("A" + letters[i:i+1])
		if (two == api.OK) != (i%16 == 0) {
			t.Errorf("A%c: %d", letters[i], two)
		}
		_, three := base.Decode("AA" + letters[i:i+1] + "=")
		if (three == api.OK) != (i%4 == 0) {
			t.Errorf("AA%c=: %d", letters[i], three)
		}
	}
}

// P3.2: Plain.
func TestPlain(t *testing.T) {
	for s, want := range map[string]string{"": "", "_-8=": "/+8=", "a+b/c": "a+b/c", "--__": "++//", "\xff-": "\xff+", "no letters!": "no letters!"} {
		if got := base.Plain(s); got != want {
			t.Errorf("Plain(%q) = %q", s, got)
		}
	}
}

// P3.3: what follows.
func TestWhatFollows(t *testing.T) {
	r := rand.New(rand.NewSource(3))
	urls := strings.NewReplacer("+", "-", "/", "_")
	for range 3000 {
		b := make([]byte, r.Intn(20))
		r.Read(b)
		s := string(b)
		l := base.Encode(s)
		for _, x := range []string{l, strings.TrimRight(l, "="), urls.Replace(l), strings.TrimRight(urls.Replace(l), "=")} {
			got, e := base.Decode(x)
			if got != s || e != api.OK {
				t.Fatalf("Decode(%q) = %x, %d, want %x", x, got, e, s)
			}
			if again := base.Encode(got); strings.TrimRight(again, "=") != strings.TrimRight(base.Plain(x), "=") {
				t.Fatalf("%q is decoded, and encoded, %q", x, again)
			}
		}
	}
}
