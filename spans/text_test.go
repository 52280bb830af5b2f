package spans

import (
	"slices"
	"strings"
	"testing"

	"waymark/api"
	"waymark/probe"
)

// digits is a number's text, reckoned by dividing.
func digits(n uint32) string {
	if n < 10 {
		return string(rune('0' + n))
	}
	return digits(n/10) + string(rune('0'+n%10))
}

// plainText is the text of a set in its form.
func plainText(form []api.Span) string {
	var parts []string
	for _, s := range form {
		if s.Lo == s.Hi {
			parts = append(parts, digits(s.Lo))
		} else {
			parts = append(parts, digits(s.Lo)+"-"+digits(s.Hi))
		}
	}
	if len(parts) == 0 {
		return "-"
	}
	return strings.Join(parts, ",")
}

// P2.3: known sets' texts, and back (P2.6).
func TestTextKnown(t *testing.T) {
	known := []struct {
		text string
		list []api.Span
	}{
		{"-", nil}, {"0", set(0, 0)}, {"0-1", set(0, 1)}, {"0,2", set(0, 0, 2, 2)}, {"1-5,7", set(1, 5, 7, 7)},
		{"4294967295", set(top, top)}, {"0-4294967295", set(0, top)}, {"0,4294967295", set(0, 0, top, top)},
		{"4294967294-4294967295", set(top-1, top)}, {"0-4294967293,4294967295", set(0, top-2, top, top)},
		{"9-10,20,99-100", set(9, 10, 20, 20, 99, 100)}, {"1000000000-1999999999", set(1000000000, 1999999999)},
	}
	for _, k := range known {
		if s := Text(k.list); s != k.text {
			t.Errorf("Text(%v): %q, not %q", k.list, s, k.text)
		}
		if l, e := Parse(k.text); !slices.Equal(l, k.list) || e != api.OK {
			t.Errorf("Parse(%q): %v %v", k.text, l, e)
		}
	}
	for s, l := range map[string][]api.Span{"-": set(3, 1), "1-12": set(5, 9, 1, 2, 3, 4, 8, 12), "0-4294967295": set(1, top, 0, 0), "0,4294967295": set(top, top, 0, 0)} {
		if x := Text(l); x != s {
			t.Errorf("Text(%v): %q, not %q", l, x, s)
		}
	}
}

// P2.6: Parse of Text is the form, Text of Parse the text.
func TestTextAndBack(t *testing.T) {
	for _, base := range bases() {
		for m := range uint(1 << width) {
			form := formed(m, base)
			s := Text(scrambled(m, base))
			if s != plainText(form) {
				t.Errorf("Text of %v: %q", form, s)
			}
			l, e := Parse(s)
			if !slices.Equal(l, form) || e != api.OK || Text(l) != s {
				t.Errorf("Parse(%q): %v %v", s, l, e)
			}
		}
	}
}

// P2.3: texts that are no set's.
func TestParseRefused(t *testing.T) {
	wrong := []string{
		"", "1-5,6", "7,1", "5-5", "01", "--", "---", ",", "-,", ",-", "-,-", "-,1", "1,-", "1,", ",1", "1,,3", "1-", "-1", "1--2", "1-2-3", "-1-2", "1-2-", "-1-",
		"5-4", "0-0", "1-1", "4294967295-4294967295", "4294967295-0", "00", "000", "0-01", "01-2", "0-00", "1-02", "1,03", "00-1",
		"1,1", "1,2", "3,1", "1-3,3", "1-3,2", "1-3,4", "1-3,4-5", "1-3,2-5", "1-3,0", "2-3,0-1", "5-9,1-2", "1-9,3-4", "0,1", "0-1,2", "4294967294,4294967295",
		"0-4294967295,0", "0-4294967295,4294967295", "4294967295,0", "4294967295,1", "5,4294967295,7",
		"4294967296", "0-4294967296", "4294967296-4294967297", "4294967297", "42949672950", "18446744073709551616", "18446744073709551617", "1-18446744073709551618",
		"99999999999", strings.Repeat("9", 100000), "1-" + strings.Repeat("1", 100000), strings.Repeat("0", 100000), strings.Repeat("1,", 100000),
		" ", " 1", "1 ", "1 -2", "1- 2", "1, 3", "1 ,3", "1-5, 7", "1\n", "1\x00", "+1", "1-+2", "1_0", "0x1", "1e1", "a", "1-a", "a-1", "1.5", "1;3", "1/3", "1:3",
		"\u0661", "1\u20132", "\xff", "1,\xff", "- ", " -", "\u2212",
	}
	for _, s := range wrong {
		if l, e := Parse(s); len(l) != 0 || e != api.ErrForm {
			t.Errorf("Parse(%.40q): %v %v", s, l, e)
		}
	}
}

// howMany tells how many lists of spans, one or more, have a text of at most room bytes, if each begins at least or above, in order and apart, and its ends are among the rising numbers of list.
func howMany(list []uint32, least uint64, room int) int {
	n := 0
	for i, lo := range list {
		left := room - len(digits(lo))
		if left < 0 {
			break
		}
		if uint64(lo) < least {
			continue
		}
		n += 1 + howMany(list, uint64(lo)+2, left-1)
		for _, hi := range list[i+1:] {
			left := left - 1 - len(digits(hi))
			if left < 0 {
				break
			}
			n += 1 + howMany(list, uint64(hi)+2, left-1)
		}
	}
	return n
}

// P2.6: what is read as a set is its text, and no other one; and all texts of so many bytes are read.
func TestNoOtherText(t *testing.T) {
	read := 0
	look := func(s string) {
		l, e := Parse(s)
		if e == api.OK && (plainText(l) != s || !slices.Equal(l, Form(l))) || e != api.OK && (len(l) != 0 || e != api.ErrForm) {
			t.Errorf("Parse(%q): %v %v", s, l, e)
		}
		if e == api.OK {
			read++
		}
	}
	const most = 8
	probe.Texts("01,-", most, look)
	list := []uint32{0, 1}
	for n := uint32(1); n < 1<<most; n++ {
		var x uint32
		for i := most - 1; i >= 0; i-- {
			x = 10*x + n>>i&1
		}
		if x > 1 {
			list = append(list, x)
		}
	}
	if want := 1 + howMany(list, 0, most); read != want {
		t.Errorf("read %d texts of %d", read, want)
	}
	for _, s := range []string{"-", "0", "1-5,7", "0-4294967295", "19,4294967295", "9-11,13-15,100"} {
		probe.Changed(s, look)
	}
}
