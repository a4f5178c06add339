package hosts_test

import (
	"fmt"
	"math/rand"
	"net/netip"
	"strings"
	"testing"

	"lazaret/api"
	"lazaret/hosts"
	"lazaret/percent"
)

const inNoHost = "\x00\t\n\r #/:<>?@[\\]^|"

func check(t *testing.T, s string, special bool, want string, wantErr api.Errno) {
	t.Helper()
	if got, e := hosts.Parse(s, special); got != want || e != wantErr {
		t.Errorf("Parse(%q, %v) = %q, %d; want %q, %d", s, special, got, e, want, wantErr)
	}
}

// P7.1: domains.
func TestDomains(t *testing.T) {
	for s, want := range map[string]string{
		"Ex%41mple.com": "example.com", "a": "a", "a.": "a.", "a..b": "a..b", ".": ".", "..": "..", "xn--A": "xn--a", "a_b!$&'()*+,;=~`{}\"": "a_b!$&'()*+,;=~`{}\"",
		"a.0b": "a.0b", "a.0xg": "a.0xg", "0x.a": "0x.a", "1.2.3.b": "1.2.3.b", "08a": "08a", "a1": "a1", "1a": "1a", "-1": "-1", "+1": "+1", "1..": "1..", "%41": "a", "1%2Ea": "1.a",
	} {
		check(t, s, true, want, api.OK)
	}
	for _, s := range []string{"", "a b", "%20", "%00", "%", "%2", "%zz", "a%", "%25", "é", "a\x7f", "a\x1f", "a\x01", "a%c3%a9", "%5b::1]", "a%2fb", "a%3a"} {
		check(t, s, true, "", api.ErrHost)
	}
}

// P7.1: which bytes no host, and no domain, has.
func TestEachByte(t *testing.T) {
	for i := range 256 {
		c := byte(i)
		s := "a" + string([]byte{c}) + "b"
		bad := strings.IndexByte(inNoHost, c) >= 0
		if bad {
			check(t, s, false, "", api.ErrHost)
		} else {
			check(t, s, false, percent.Encode(s, percent.SetControl), api.OK)
		}
		if bad || c < 32 || c >= 127 || c == '%' {
			check(t, s, true, "", api.ErrHost)
		} else {
			check(t, s, true, strings.ToLower(s), api.OK)
		}
	}
}

// P7.1: hosts that are not special.
func TestOthers(t *testing.T) {
	for s, want := range map[string]string{
		"": "", "Ex%41mple.com": "Ex%41mple.com", "1.2": "1.2", "256.1": "256.1", "%zz%": "%zz%", "a\x01é": "a%01%C3%A9", "A\x7f": "A%7F", "a\"b`{}": "a\"b`{}", "[::1]": "[::1]", "[1:0:0:2:0:0:0:3]": "[1:0:0:2::3]",
	} {
		check(t, s, false, want, api.OK)
	}
	check(t, "[", false, "", api.ErrV6)
	check(t, "a b", false, "", api.ErrHost)
}

// P7.1: IPv4 addresses, in whatever way.
func TestV4(t *testing.T) {
	for s, want := range map[string]string{
		"0x7f.1": "127.0.0.1", "1.2.3": "1.2.0.3", "1.2.3.4": "1.2.3.4", "1.2.3.4.": "1.2.3.4", "0": "0.0.0.0", "0x": "0.0.0.0", "0X": "0.0.0.0", "0XfF": "0.0.0.255",
		"4294967295": "255.255.255.255", "1.16777215": "1.255.255.255", "1.2.65535": "1.2.255.255", "1.2.3.255": "1.2.3.255", "017.0x11.9": "15.17.0.9", "00": "0.0.0.0", "000377": "0.0.0.255",
		"%31%2e2": "1.0.0.2", "255.255.255.255": "255.255.255.255", "0x00000000000000000001": "0.0.0.1", "1.0x.0.0x": "1.0.0.0", "256": "0.0.1.0",
	} {
		check(t, s, true, want, api.OK)
	}
	for _, s := range []string{
		"256.1", "09", "a.0x", "4294967296", "1.16777216", "1.2.65536", "1.2.3.256", "1.256.3.4", "1.2.3.4.5", "a.1", "1..2", ".1", "a.08", "1.2.3.08", "1.2.3.4.5.",
		"99999999999999999999999999", "0xffffffffffffffffffffffff", "1.99999999999999999999", "0xg.1", "1.2.3.0x100", "08.1", "*.1", "1.a.09.",
	} {
		check(t, s, true, "", api.ErrV4)
	}
}

// P7.1: IPv6 addresses, in whatever way.
func TestV6(t *testing.T) {
	for s, want := range map[string]string{
		"[1:0:0:2:0:0:0:3]": "[1:0:0:2::3]", "[::1.2.3.4]": "[::102:304]", "[::]": "[::]", "[::1]": "[::1]", "[1::]": "[1::]", "[0:0:0:0:0:0:0:0]": "[::]",
		"[1:2:3:4:5:6:7:8]": "[1:2:3:4:5:6:7:8]", "[1::3:4:5:6:7:8]": "[1:0:3:4:5:6:7:8]", "[1:2:3:4:5:6:7::]": "[1:2:3:4:5:6:7:0]", "[::2:3:4:5:6:7:8]": "[0:2:3:4:5:6:7:8]",
		"[00AB:00cD::F]": "[ab:cd::f]", "[1:0:0:2:3:0:0:4]": "[1::2:3:0:0:4]", "[1:2:3:4:5:6:1.2.3.4]": "[1:2:3:4:5:6:102:304]", "[::1:2:3:4:5:255.255.255.255]": "[0:1:2:3:4:5:ffff:ffff]",
		"[0:0:1:0:0:0:0:1]": "[0:0:1::1]", "[1:0:2:0:3:0:4:0]": "[1:0:2:0:3:0:4:0]", "[::0.0.0.0]": "[::]", "[::10.0.100.9]": "[::a00:6409]",
	} {
		check(t, s, true, want, api.OK)
		check(t, s, false, want, api.OK)
	}
	for _, s := range []string{
		"[", "[]", "[1:2]", "[::1", "[::1]a", "[:::]", "[1:::2]", "[1::2::3]", "[:1:2:3:4:5:6:7]", "[1:2:3:4:5:6:7:]", "[1:2:3:4:5:6:7:8:9]", "[1:2:3:4:5:6:7:8::]", "[::1:2:3:4:5:6:7:8]", "[1::2:3:4:5:6:7:8]",
		"[12345::]", "[g::]", "[1.2.3.4]", "[1.2.3.4::]", "[::1.2.3]", "[::1.2.3.4.5]", "[::256.1.1.1]", "[::01.2.3.4]", "[::1.2.3.00]", "[::1.2.3.]", "[::.2.3.4]", "[::1.2.3.4:5]", "[1:2:3:4:5:6:7:1.2.3.4]", "[::1:2:3:4:5:6:1.2.3.4]",
		"[::1.2.3.a]", "[::1.2.3.0x1]", "[::+1]", "[::-1]", "[:: 1]", "[::1%25a]", "[1]", "[:]", "[::%31]", "[::1.2.3.1000]",
	} {
		check(t, s, true, "", api.ErrV6)
		check(t, s, false, "", api.ErrV6)
	}
}

// P7.2: addresses as they are told.
func TestIP(t *testing.T) {
	for _, s := range []string{"127.0.0.1", "0.0.0.0", "255.255.255.255", "[::1]", "[::]", "[1:0:0:2::3]"} {
		if !hosts.IP(s) {
			t.Errorf("IP(%q)", s)
		}
	}
	for _, s := range []string{"", ".", "127.1", "127.0.0.1.", "127.0.0.01", "256.0.0.1", "a", "a.b", "1.2.3.4.5", "::1", "[::1", "[0::1]", "[::A]", "[]", "0x7f.0.0.1", "1.2.3.a", "%31.2.3.4", "[::1.2.3.4]", "é"} {
		if hosts.IP(s) {
			t.Errorf("not IP(%q)", s)
		}
	}
}

// P7.3: what Parse answers it answers of itself; an address is told in one way.
func TestWhatFollows(t *testing.T) {
	r := rand.New(rand.NewSource(7))
	const some = "aA01.:xXfF[]%4é9g\x01"
	for range 20000 {
		b := make([]byte, 1+r.Intn(8))
		for i := range b {
			b[i] = some[r.Intn(len(some))]
		}
		for _, special := range []bool{true, false} {
			if h, e := hosts.Parse(string(b), special); e == api.OK {
				check(t, h, special, h, api.OK)
			} else if h != "" {
				t.Errorf("%q beside an error", h)
			}
		}
	}
	for range 2000 {
		var p [8]uint16
		for i := range p {
			p[i] = uint16(r.Intn(3) * r.Intn(70000))
		}
		long := fmt.Sprintf("%x:%X:%04x:%x:%x:%x:%x:%x", p[0], p[1], p[2], p[3], p[4], p[5], p[6], p[7])
		want := "[" + netip.MustParseAddr(long).String() + "]"
		if !strings.Contains(want, ".") {
			check(t, "["+long+"]", true, want, api.OK)
		}
		v := r.Uint32()
		dotted := fmt.Sprintf("%d.%d.%d.%d", v>>24, v>>16&255, v>>8&255, v&255)
		for _, s := range []string{fmt.Sprint(v), fmt.Sprintf("0x%X", v), fmt.Sprintf("0%o", v), fmt.Sprintf("%d.%d", v>>24, v&0xffffff), dotted} {
			check(t, s, true, dotted, api.OK)
		}
	}
}
