package tree_test

import (
	"math/rand"
	"slices"
	"strings"
	"testing"

	"waymark/api"
	"waymark/lex"
	"waymark/tree"
)

// P14.3: a text, a statement a line.
func TestPrint(t *testing.T) {
	for s, want := range map[string]string{
		"":                  "",
		"a;":                "a;\n",
		"a  b\nc;d{}":       "a b c;\nd {\n}\n",
		"a{b{c;}d e{}f;}g;": "a {\n    b {\n        c;\n    }\n    d e {\n    }\n    f;\n}\ng;\n",
		"a[b c];":           "a b;\na c;\n",
		"a;a;":              "a;\na;\n",
		`"" "a" { "b c" "d" "{" "}" ";" "[" "]" "#" "/*" "a/*b" "*/" "/" "e;f" "g#" " " "h  i" "/" "*"; }`: "\"\" a {\n    \"b c\" d \"{\" \"}\" \";\" \"[\" \"]\" \"#\" \"/*\" \"a/*b\" */ / \"e;f\" \"g#\" \" \" \"h  i\" / *;\n}\n",
		`"a b" { } "";`: "\"a b\" {\n}\n\"\";\n",
	} {
		if got, e := tree.Print(made(t, s)); got != want || e != api.OK {
			t.Errorf("%s: %q %v, not %q", s, got, e, want)
		}
	}
	// Places are nothing to it.
	if got, e := tree.Print([]tree.Node{leaf("a b"), {Words: []string{"c"}, Pos: []api.Pos{{Line: -1}, at(3, 3)}}}); got != "a b;\nc;\n" || e != api.OK {
		t.Error(got, e)
	}
}

// P14.3: each byte in a word: it stands so, or in quotes, or not at all.
func TestPrintBytes(t *testing.T) {
	for c := range 256 {
		b := string([]byte{byte(c)})
		for _, word := range []string{b, "a" + b, b + "a", "/" + b, b + "*", "a" + b + "b"} {
			inQuotes := strings.ContainsAny(word, " {};[]#") || strings.Contains(word, "/*")
			for _, n := range []tree.Node{{Words: []string{"x", word, "y"}}, {Words: []string{word}, Block: true}, block("x", tree.Node{Words: []string{"y", word}})} {
				got, e := tree.Print([]tree.Node{leaf("v"), n})
				if c < 0x20 || c > 0x7E || c == '"' {
					if got != "" || e != api.ErrArg {
						t.Errorf("%q: %q %v", word, got, e)
					}
					continue
				}
				stands := word
				if inQuotes {
					stands = `"` + word + `"`
				}
				want := []string{"v;\nx " + stands + " y;\n", "v;\n" + stands + " {\n}\n", "v;\nx {\n    y " + stands + ";\n}\n"}
				if !slices.Contains(want, got) || e != api.OK {
					t.Errorf("%q: %q %v", word, got, e)
				}
			}
		}
	}
}

// nest is statements in so many containers, one in another.
func nest(deep int, l ...tree.Node) []tree.Node {
	for range deep {
		l = []tree.Node{block("a", l...)}
	}
	return l
}

// P14.3: what has no text.
func TestPrintRefused(t *testing.T) {
	for _, odd := range []tree.Node{
		{}, {Block: true}, {Words: []string{}}, {Pos: []api.Pos{at(1, 1)}}, {Words: []string{"a"}, Kids: []tree.Node{leaf("b")}}, {Words: []string{"a"}, Kids: []tree.Node{{}}}, {Block: true, Kids: []tree.Node{leaf("a")}},
		{Words: []string{"a", "\""}}, {Words: []string{"a\n"}}, {Words: []string{"\t", "a"}, Block: true}, {Words: []string{"\u00e9"}}, {Words: []string{"a\x7f"}}, {Words: []string{"\x00"}},
	} {
		for _, l := range [][]tree.Node{{odd}, {leaf("a"), odd, leaf("b")}, {block("a", leaf("b"), odd)}, nest(tree.MaxDeep-1, odd), {block("a", block("b", odd)), leaf("c")}} {
			if got, e := tree.Print(l); got != "" || e != api.ErrArg {
				t.Error(shown(l), got, e)
			}
		}
	}
	for deep, want := range map[int]api.Errno{tree.MaxDeep - 1: api.OK, tree.MaxDeep: api.OK, tree.MaxDeep + 1: api.ErrArg, tree.MaxDeep + 2: api.ErrArg, 1 << 16: api.ErrArg} {
		for _, within := range [][]tree.Node{nil, {leaf("b")}} {
			l := append(nest(deep, within...), leaf("c"))
			got, e := tree.Print(l)
			if e != want || (e == api.OK) == (got == "") {
				t.Error(deep, e)
			}
			if e == api.OK && (!tree.Same(made(t, got), l) || strings.Count(got, "\n") != 2*deep+len(within)+1) {
				t.Error(deep, got)
			}
		}
	}
	// No empty Kids of a leaf are refused.
	if got, e := tree.Print([]tree.Node{{Words: []string{"a"}, Kids: []tree.Node{}}}); got != "a;\n" || e != api.OK {
		t.Error(got, e)
	}
}

// written is tokens written again, each word in quotes, with what gap tells between them.
func written(t *testing.T, s string, gap func() string) string {
	t.Helper()
	tokens, p, e := lex.Tokens(s)
	if e != api.OK {
		t.Fatal(s, p, e)
	}
	var b strings.Builder
	b.WriteString(gap())
	for _, x := range tokens {
		if x.Kind == lex.Plain {
			x.Text = `"` + x.Text + `"`
		}
		b.WriteString(x.Text + gap())
	}
	return b.String()
}

// P14.4: what is printed is read as it was; blanks and comments change nothing but places.
func TestPrintBack(t *testing.T) {
	r := rand.New(rand.NewSource(4))
	gap := func() string {
		gaps := []string{"", " ", "\n", "   ", "/* a; */", "# } \" {\n", "/**/", "\n\n", "/* \n # */"}
		return gaps[r.Intn(len(gaps))] + gaps[r.Intn(len(gaps))]
	}
	for range 3000 {
		l := some(r, 5, 4, "a", "b/c", "", "a b", "#", "/*", "*/", "{", "}", ";", "[", "]", "<*>", "/", "*", "'", "\\", "~", "!", "10.0.0.0/8", "a;b", " ")
		s, e := tree.Print(placed(l))
		if e != api.OK {
			t.Fatal(shown(l), e)
		}
		back, p, e := tree.Parse(s)
		if e != api.OK && e != api.ErrFull || e == api.OK && (!tree.Same(back, l) || p != (api.Pos{})) {
			t.Fatalf("%s: %q: %s%v %v", shown(l), s, shown(back), p, e)
		}
		if again, e := tree.Print(back); len(back) > 0 && (again != s || e != api.OK) {
			t.Fatalf("%q: %q %v", s, again, e)
		}
		if more := written(t, s, gap); len(more) <= api.MaxText && strings.Count(more, "\n") < api.MaxLines {
			if back, p, e := tree.Parse(more); e != api.OK || !tree.Same(back, l) || p != (api.Pos{}) {
				t.Fatalf("%q: %s%v %v", more, shown(back), p, e)
			}
		}
	}
}

// P14.4: how long the text may be, Parse says.
func TestPrintLong(t *testing.T) {
	lines := slices.Repeat([]tree.Node{leaf("a")}, api.MaxLines)
	s, e := tree.Print(lines)
	if e != api.OK || !tree.Same(made(t, s), lines) {
		t.Error(len(s), e)
	}
	s, e = tree.Print(append(lines, leaf("a")))
	if _, p, parsed := tree.Parse(s); e != api.OK || len(s) != 3*(api.MaxLines+1) || parsed != api.ErrFull || p != at(api.MaxLines+1, 1) {
		t.Error(len(s), e, p, parsed)
	}
	for _, more := range []int{0, 1} {
		l := []tree.Node{leaf(strings.Repeat("a", api.MaxText-2+more))}
		s, e := tree.Print(l)
		back, _, parsed := tree.Parse(s)
		if e != api.OK || len(s) != api.MaxText+more || (parsed == api.OK) != (more == 0) || tree.Same(back, l) != (more == 0) {
			t.Error(len(s), e, parsed)
		}
	}
}
