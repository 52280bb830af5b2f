package lex_test

import (
	"math"
	"math/big"
	"regexp"
	"strconv"
	"strings"
	"testing"

	"waymark/lex"
	"waymark/probe"
)

var digits = regexp.MustCompile(`^(0|[1-9][0-9]*)$`)

// checkNumber holds what Number answers against the number as a great one.
func checkNumber(t *testing.T, s string, most int) {
	t.Helper()
	want, ok := new(big.Int), digits.MatchString(s)
	if ok {
		want.SetString(s, 10)
		ok = want.Cmp(big.NewInt(int64(most))) <= 0
	}
	if !ok {
		want.SetInt64(0)
	}
	if n, got := lex.Number(s, most); int64(n) != want.Int64() || got != ok {
		t.Errorf("Number(%.60q, %d): %d %v, not %v %v", s, most, n, got, want, ok)
	}
}

// P7.3: known numbers, and what is none, or too great.
func TestNumberKnown(t *testing.T) {
	known := []struct {
		text string
		most int
		want int
		ok   bool
	}{
		{"0", 0, 0, true}, {"1", 0, 0, false}, {"9", 9, 9, true}, {"10", 9, 0, false}, {"10", 10, 10, true}, {"012", 99, 0, false}, {"", 9, 0, false}, {"00", 9, 0, false}, {"01", 9, 0, false},
		{"65535", 65535, 65535, true}, {"65536", 65535, 0, false}, {"16777216", 1 << 24, 1 << 24, true}, {"16777217", 1 << 24, 0, false},
		{"4294967295", math.MaxUint32, math.MaxUint32, true}, {"4294967296", math.MaxUint32, 0, false},
		{"9223372036854775807", math.MaxInt, math.MaxInt, true}, {"9223372036854775808", math.MaxInt, 0, false}, {"9223372036854775806", math.MaxInt - 1, math.MaxInt - 1, true},
		{"0", -1, 0, false}, {"0", math.MinInt, 0, false}, {"-1", -1, 0, false}, {"-1", 9, 0, false}, {"-0", 9, 0, false}, {"+1", 9, 0, false}, {"+0", 9, 0, false},
	}
	for _, k := range known {
		if n, ok := lex.Number(k.text, k.most); n != k.want || ok != k.ok {
			t.Errorf("Number(%q, %d): %d %v", k.text, k.most, n, ok)
		}
	}
}

// P7.3: each number below and at its bound, and above.
func TestNumberEach(t *testing.T) {
	for _, most := range []int{math.MinInt, -1, 0, 1, 9, 10, 99, 255, 999, 65535, math.MaxInt32, math.MaxInt} {
		for n := range 70000 {
			checkNumber(t, strconv.Itoa(n), most)
		}
		probe.Texts("0129-+ _a", 4, func(s string) { checkNumber(t, s, most) })
	}
}

// P7.3: a great number does not wrap round to a small one.
func TestNumberGreat(t *testing.T) {
	for _, most := range []int{0, 9, math.MaxUint32, math.MaxInt - 1, math.MaxInt} {
		for bits := range uint(200) {
			for plus := int64(-12); plus <= 12; plus++ {
				n := new(big.Int).Lsh(big.NewInt(1), bits)
				checkNumber(t, n.Add(n, big.NewInt(plus)).String(), most)
			}
		}
		for _, c := range []string{"0", "1", "9"} {
			for _, length := range []int{19, 20, 21, 40, 100000} {
				checkNumber(t, strings.Repeat(c, length), most)
			}
		}
	}
}

// P7.3: no other byte stands in a number.
func TestNumberChanged(t *testing.T) {
	for _, s := range []string{"0", "10", "4294967295", "9223372036854775807"} {
		for _, most := range []int{99, math.MaxInt} {
			probe.Changed(s, func(s string) { checkNumber(t, s, most) })
		}
	}
	for _, s := range []string{"\u0661", "\uff11", "1\u00a0", "0x1", "1e1", "1.0", "1_0", "0b1", "1,000"} {
		checkNumber(t, s, 9999)
	}
}

var name = regexp.MustCompile(`^[a-zA-Z][a-zA-Z0-9_./-]{0,31}$`)

// checkName holds what Name answers against the pattern.
func checkName(t *testing.T, s string) {
	t.Helper()
	if got := lex.Name(s); got != name.MatchString(s) {
		t.Errorf("Name(%.60q): %v", s, got)
	}
}

// P7.3: known names, and what is none.
func TestNameKnown(t *testing.T) {
	for _, s := range []string{"a", "z", "A", "Z", "ge-0/0", "a-b_c.d/e", "a1", "a-", "a.", "a/", "a_", "Az09", strings.Repeat("a", 32), "a" + strings.Repeat("9", 31)} {
		if !lex.Name(s) {
			t.Errorf("no name: %q", s)
		}
	}
	for _, s := range []string{"", "1a", "1", "-a", "_a", ".a", "/a", "a b", " a", "a ", "a\n", "a\x00", "a:b", "a*b", "<*>", "a+", "a,b", "a@", "a[", "a`", "a{", "@", "[", "`", "{", "a\u00e9", "\u00e9", "a\xff", "\xff", strings.Repeat("a", 33), strings.Repeat("a", 100000)} {
		if lex.Name(s) {
			t.Errorf("a name: %q", s)
		}
	}
}

// P7.3: each byte at each place, and each length.
func TestNameEach(t *testing.T) {
	for _, s := range []string{"", "a", "ge-0/0.1_x", strings.Repeat("b", 31), strings.Repeat("b", 32)} {
		probe.Changed(s, func(s string) { checkName(t, s) })
	}
	probe.Texts("aZ09-_./ :", 4, func(s string) { checkName(t, s) })
	for length := range 100 {
		checkName(t, strings.Repeat("n", length))
		checkName(t, strings.Repeat("0", length))
	}
}
