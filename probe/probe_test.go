package probe

import (
	"slices"
	"testing"
)

func TestTexts(t *testing.T) {
	var got []string
	Texts("ab", 2, func(s string) { got = append(got, s) })
	if want := []string{"", "a", "b", "aa", "ab", "ba", "bb"}; !slices.Equal(got, want) {
		t.Errorf("%q", got)
	}
}

func TestChanged(t *testing.T) {
	got := map[string]bool{}
	Changed("ab", func(s string) { got[s] = true })
	// Two left out, two times 256 made another (of which one is the text itself), three times 256 put in (of which an a and a b may stand on either side of their like).
	if want := 2 + (2*255 + 1) + (3*256 - 2); len(got) != want {
		t.Errorf("%d texts of %d", len(got), want)
	}
	for _, s := range []string{"a", "b", "xb", "ax", "xab", "axb", "abx", "\xffb", "ab\x00"} {
		if !got[s] {
			t.Errorf("not %q", s)
		}
	}
}
