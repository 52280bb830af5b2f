package lists_test

import (
	"fmt"
	"math"
	"strings"
	"testing"

	"waymark/api"
	"waymark/lists"
	"waymark/probe"
)

// plainText is a community's text, its halves reckoned by dividing.
func plainText(c uint32) string {
	return fmt.Sprintf("%d:%d", c/65536, c%65536)
}

// P9.3: known texts, and back.
func TestTextKnown(t *testing.T) {
	for s, c := range map[string]uint32{
		"0:0": 0, "1:1": 65537, "0:1": 1, "1:0": 65536, "0:65535": 65535, "65535:0": 4294901760, "65535:65535": math.MaxUint32, "32768:0": 1 << 31, "32767:65535": 1<<31 - 1, "65001:100": 4259905636, "10:9": 655369,
	} {
		if got := lists.Text(c); got != s {
			t.Errorf("Text(%d): %q, not %q", c, got, s)
		}
		if got, e := lists.Parse(s); got != c || e != api.OK {
			t.Errorf("Parse(%q): %d %v", s, got, e)
		}
	}
}

// P9.3, P9.5: each half with some of the other one; Parse undoes Text, and halves above are refused.
func TestTextEach(t *testing.T) {
	some := []uint32{0, 1, 9, 10, 255, 256, 32767, 32768, 65534, 65535}
	for half := range uint32(1 << 16) {
		for _, other := range some {
			for _, c := range []uint32{half<<16 | other, other<<16 | half} {
				s := lists.Text(c)
				back, e := lists.Parse(s)
				if s != plainText(c) || back != c || e != api.OK {
					t.Fatalf("%d: %q %d %v", c, s, back, e)
				}
			}
		}
	}
	for half := 65536; half < 140000; half++ {
		for _, s := range []string{fmt.Sprintf("%d:%d", half, half%65536), fmt.Sprintf("%d:%d", half%65536, half)} {
			if c, e := lists.Parse(s); c != 0 || e != api.ErrForm {
				t.Fatalf("Parse(%q): %d %v", s, c, e)
			}
		}
	}
}

// P9.3: texts that are no community's.
func TestParseRefused(t *testing.T) {
	wrong := []string{
		"", ":", "::", "1", "0", "65537", "1:", ":1", "0:", ":0", "1::1", ":1:1", "1:1:", "1:1:1", "0:0:0",
		"01:1", "1:01", "00:0", "0:00", "01:01", "001:1", "1:000", "65536:0", "0:65536", "65536:65536", "99999:1", "1:99999", "100000:0", "655350:0", "0:655350",
		"4294967296:1", "4294967297:1", "1:4294967297", "18446744073709551616:0", "18446744073709551617:1", "1:18446744073709551617", "1:340282366920938463463374607431768211457",
		"-1:1", "1:-1", "+1:1", "1:+1", "-0:0", "0:-0", "+0:0", " 1:1", "1:1 ", "1 :1", "1: 1", "1 1", "1:1\n", "\n1:1", "1:1\x00", "\x001:1", "1\x00:1", "1:1\t",
		"1_0:1", "1:1_0", "0x1:1", "1:0x1", "0b1:0", "0o1:0", "1e1:1", "1.0:1", "a:1", "1:a", "a:b", "1;1", "1.1", "1,1", "1-1", "1/1", "no-export", "1:*", "*:*",
		"\u0661:1", "1:\u0661", "1\uff1a1", "\xff", "1:\xff", "\xff:1", "\ufeff1:1", "0:1 0:2",
	}
	long := 100000
	wrong = append(wrong, strings.Repeat("9", long), strings.Repeat("1", long)+":1", "1:"+strings.Repeat("1", long), strings.Repeat("0", long)+":0", "0:"+strings.Repeat("0", long), strings.Repeat(":", long), strings.Repeat("1:", long))
	for _, s := range wrong {
		if c, e := lists.Parse(s); c != 0 || e != api.ErrForm {
			t.Errorf("Parse(%.40q): %d %v", s, c, e)
		}
	}
}

// lookAt looks whether a text is refused, or is the text of what it is read as; and tells whether it is read.
func lookAt(t *testing.T, s string) bool {
	c, e := lists.Parse(s)
	if e == api.OK && plainText(c) != s || e != api.OK && (c != 0 || e != api.ErrForm) {
		t.Errorf("Parse(%q): %d %v", s, c, e)
	}
	return e == api.OK
}

// P9.5: of all short texts of an alphabet those are read that are some community's, and no other ones.
func TestNoOtherText(t *testing.T) {
	const most, alphabet = 8, "0156:"
	read := 0
	probe.Texts(alphabet, most, func(s string) {
		if lookAt(t, s) {
			read++
		}
	})
	lengths := map[int]int{}
	for half := range 1 << 16 {
		if s := fmt.Sprint(half); strings.Trim(s, alphabet) == "" {
			lengths[len(s)]++
		}
	}
	want := 0
	for high, some := range lengths {
		for low, others := range lengths {
			if high+1+low <= most {
				want += some * others
			}
		}
	}
	if read != want {
		t.Errorf("read %d texts of %d", read, want)
	}
}

// P9.5: nothing that is one byte's change away from a community's text is read, but what is one too.
func TestTextChanged(t *testing.T) {
	for _, s := range []string{"0:0", "1:1", "65535:65535", "65001:100", "10:65530"} {
		probe.Changed(s, func(changed string) { lookAt(t, changed) })
	}
}
