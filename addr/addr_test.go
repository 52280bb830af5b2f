package addr

import (
	"math"
	"strings"
	"testing"

	"waymark/api"
	"waymark/probe"
)

// edges are addresses at which something changes: the ends of the space, single bits, runs of bits, and a few everyday ones.
func edges() []api.Addr {
	list := []api.Addr{0x0A000001, 0x0A010203, 0xC0A80164, 0x80000001, 0x7FFFFFFE}
	for n := range 33 {
		bit := api.Addr(uint64(1) << n)
		list = append(list, bit, bit-1, ^bit, -bit)
	}
	return list
}

// plainText is an address's text, reckoned by dividing.
func plainText(a api.Addr) string {
	var parts []string
	for _, by := range []api.Addr{1 << 24, 1 << 16, 1 << 8, 1} {
		parts = append(parts, plainNumber(int(a/by%256)))
	}
	return strings.Join(parts, ".")
}

func plainNumber(n int) string {
	if n < 10 {
		return string(rune('0' + n))
	}
	return plainNumber(n/10) + string(rune('0'+n%10))
}

// P1.1: an address's text, and back (P1.5).
func TestAddressTexts(t *testing.T) {
	for _, a := range edges() {
		s := Text(a)
		if s != plainText(a) {
			t.Errorf("Text(%08x): %q", a, s)
		}
		if b, e := Parse(s); b != a || e != api.OK {
			t.Errorf("Parse(%q): %08x %v", s, b, e)
		}
	}
	known := []struct {
		text string
		addr api.Addr
	}{
		{"0.0.0.0", 0}, {"255.255.255.255", 0xFFFFFFFF}, {"10.0.0.1", 0x0A000001}, {"1.2.3.4", 0x01020304},
		{"0.0.0.255", 0xFF}, {"0.0.1.0", 0x100}, {"199.99.9.0", 0xC7630900},
	}
	for _, k := range known {
		if a, e := Parse(k.text); a != k.addr || e != api.OK {
			t.Errorf("Parse(%q): %08x %v", k.text, a, e)
		}
		if s := Text(k.addr); s != k.text {
			t.Errorf("Text(%08x): %q", k.addr, s)
		}
	}
}

// P1.1: each byte's number from 0 to 255 at each of the four places, and none above.
func TestAddressBytes(t *testing.T) {
	for place := range 4 {
		for n := range 1100 {
			parts := []string{"0", "0", "0", "0"}
			parts[place] = plainNumber(n)
			s := strings.Join(parts, ".")
			a, e := Parse(s)
			if n <= 255 && (e != api.OK || a != api.Addr(n)<<(24-8*place)) {
				t.Errorf("Parse(%q): %08x %v", s, a, e)
			}
			if n > 255 && (e != api.ErrForm || a != 0) {
				t.Errorf("Parse(%q): %08x %v", s, a, e)
			}
		}
	}
}

// P1.1: texts that are no address's.
func TestAddressRefused(t *testing.T) {
	wrong := []string{
		"", ".", "...", "....", "10", "10.0.0", "10.0.0.", ".10.0.0", "10..0.0", "1.2.3.4.", ".1.2.3.4", "1.2.3.4.5", "1.2.3.4.5.6",
		"010.0.0.1", "00.0.0.0", "0.0.0.00", "1.2.3.04", "256.0.0.1", "0.0.0.256", "1000.0.0.1", "1.2.3.300",
		"4294967296.0.0.0", "4294967297.0.0.0", "0.0.0.18446744073709551616", "0.0.0.18446744073709551617", "0.0.0." + strings.Repeat("1", 100000),
		"1.2.3.4 ", " 1.2.3.4", "1. 2.3.4", "1.2.3.4\n", "1.2.3.4\x00", "-1.2.3.4", "+1.2.3.4", "1.2.3.-4", "0x1.2.3.4", "1.2.3.a", "1.2.3.:", "1.2.3./", "1,2,3,4",
		"1.2.3.4/32", "1.2.3/4", "::1", "\u0661.2.3.4", "1.2.3.\xff", "1_0.0.0.0", "1e1.0.0.0",
	}
	for _, s := range wrong {
		if a, e := Parse(s); a != 0 || e != api.ErrForm {
			t.Errorf("Parse(%.40q): %08x %v", s, a, e)
		}
	}
}

// P1.5: what is read as an address is its text, and no other one.
func TestNoOtherAddressText(t *testing.T) {
	read := 0
	look := func(s string) {
		a, e := Parse(s)
		if e == api.OK && plainText(a) != s || e != api.OK && (a != 0 || e != api.ErrForm) {
			t.Errorf("Parse(%q): %08x %v", s, a, e)
		}
		if e == api.OK {
			read++
		}
	}
	probe.Texts("012.", 8, look)
	// Seven bytes: 3 for each number; eight: one of the four has two digits, and its first is no nought.
	if want := 3*3*3*3 + 4*2*3*3*3*3; read != want {
		t.Errorf("read %d texts of %d", read, want)
	}
	for _, s := range []string{"0.0.0.0", "10.0.0.1", "255.255.255.255", "25.20.100.9"} {
		probe.Changed(s, look)
	}
}

// P1.1: a prefix's text, and back (P1.5).
func TestPrefixTexts(t *testing.T) {
	for _, p := range family() {
		s := PrefixText(p)
		if s != plainText(p.Addr)+"/"+plainNumber(p.Bits) {
			t.Errorf("PrefixText(%v): %q", p, s)
		}
		if q, e := ParsePrefix(s); q != p || e != api.OK {
			t.Errorf("ParsePrefix(%q): %v %v", s, q, e)
		}
	}
	known := []struct {
		text   string
		prefix api.Prefix
	}{
		{"10.0.0.0/8", api.Prefix{Addr: 0x0A000000, Bits: 8}}, {"0.0.0.0/0", api.Prefix{}},
		{"0.0.0.0/32", api.Prefix{Bits: 32}}, {"255.255.255.255/32", api.Prefix{Addr: 0xFFFFFFFF, Bits: 32}},
		{"128.0.0.0/1", api.Prefix{Addr: 0x80000000, Bits: 1}}, {"1.2.3.4/30", api.Prefix{Addr: 0x01020304, Bits: 30}},
	}
	for _, k := range known {
		if p, e := ParsePrefix(k.text); p != k.prefix || e != api.OK {
			t.Errorf("ParsePrefix(%q): %v %v", k.text, p, e)
		}
		if s := PrefixText(k.prefix); s != k.text {
			t.Errorf("PrefixText(%v): %q", k.prefix, s)
		}
	}
}

// P1.1: the text of a prefix that may not be.
func TestPrefixTextOfWhatMayNotBe(t *testing.T) {
	known := []struct {
		prefix api.Prefix
		text   string
	}{
		{api.Prefix{Addr: 0x0A000001, Bits: 8}, "10.0.0.1/8"}, {api.Prefix{Addr: 1, Bits: -1}, "0.0.0.1/-1"},
		{api.Prefix{Addr: 0xFFFFFFFF, Bits: 33}, "255.255.255.255/33"}, {api.Prefix{Bits: -120}, "0.0.0.0/-120"},
		{api.Prefix{Bits: math.MaxInt64}, "0.0.0.0/9223372036854775807"}, {api.Prefix{Bits: math.MinInt64}, "0.0.0.0/-9223372036854775808"},
	}
	for _, k := range known {
		if s := PrefixText(k.prefix); s != k.text {
			t.Errorf("PrefixText(%v): %q", k.prefix, s)
		}
	}
}

// P1.1: texts that are no prefix's; the form is asked for ahead of the bits behind.
func TestPrefixRefused(t *testing.T) {
	form := []string{
		"", "/", "/8", "10.0.0.0", "10.0.0.0/", "10.0.0.0/33", "10.0.0.0/08", "10.0.0.0/00", "10.0.0.0/032", "10.0.0.0/-1", "10.0.0.0/+8",
		"10.0.0.0/ 8", "10.0.0.0 /8", "10.0.0.0/8 ", " 10.0.0.0/8", "10.0.0.0/8/8", "10.0.0.0//8", "10.0.0/8", "010.0.0.0/8", "256.0.0.0/8",
		"10.0.0.0/8.", "10.0.0.0/a", "10.0.0.0/0x8", "10.0.0.0\\8", "10.0.0.0/255.0.0.0", "10.0.0.0/4294967304", "10.0.0.0/18446744073709551624",
		"10.0.0.1/33", "10.0.0.1/08", "255.255.255.255/99", "10.0.0.0/" + strings.Repeat("9", 100000),
	}
	for _, s := range form {
		if p, e := ParsePrefix(s); p != (api.Prefix{}) || e != api.ErrForm {
			t.Errorf("ParsePrefix(%.40q): %v %v", s, p, e)
		}
	}
	for _, s := range []string{"10.0.0.1/8", "0.0.0.1/0", "128.0.0.0/0", "255.255.255.255/31", "1.2.3.4/29", "1.2.3.4/1"} {
		if p, e := ParsePrefix(s); p != (api.Prefix{}) || e != api.ErrMask {
			t.Errorf("ParsePrefix(%q): %v %v", s, p, e)
		}
	}
}

// P1.5: what is read as a prefix is its text, and no other one.
func TestNoOtherPrefixText(t *testing.T) {
	read := 0
	look := func(s string) {
		p, e := ParsePrefix(s)
		if e == api.OK && plainText(p.Addr)+"/"+plainNumber(p.Bits) != s || e != api.OK && p != (api.Prefix{}) {
			t.Errorf("ParsePrefix(%q): %v %v", s, p, e)
		}
		if e == api.OK {
			read++
		}
	}
	probe.Texts("0123456789/.- +", 3, func(s string) { look("0.0.0.0/" + s) })
	if read != 33 {
		t.Errorf("read %d texts of 33", read)
	}
	for _, s := range []string{"0.0.0.0/0", "10.0.0.0/8", "255.255.255.255/32", "25.20.100.0/24"} {
		probe.Changed(s, look)
	}
}
