package tree_test

import (
	"math/rand"
	"regexp"
	"slices"
	"strings"
	"testing"

	"waymark/api"
	"waymark/lex"
	"waymark/probe"
	"waymark/tree"
)

func at(line, col int) api.Pos { return api.Pos{Line: line, Col: col} }

// P14.1: statements, each word with its place.
func TestParse(t *testing.T) {
	const text = "a { b [ c d ]; }\n\"e f\" \"\" g/h {\n  i { } # j\n  k;k;\n}\nl\"m\"[n\n\"{\"];"
	want := []tree.Node{
		{Words: []string{"a"}, Pos: []api.Pos{at(1, 1)}, Block: true, Kids: []tree.Node{
			{Words: []string{"b", "c"}, Pos: []api.Pos{at(1, 5), at(1, 9)}},
			{Words: []string{"b", "d"}, Pos: []api.Pos{at(1, 5), at(1, 11)}},
		}},
		{Words: []string{"e f", "", "g/h"}, Pos: []api.Pos{at(2, 1), at(2, 7), at(2, 10)}, Block: true, Kids: []tree.Node{
			{Words: []string{"i"}, Pos: []api.Pos{at(3, 3)}, Block: true},
			{Words: []string{"k"}, Pos: []api.Pos{at(4, 3)}},
			{Words: []string{"k"}, Pos: []api.Pos{at(4, 5)}},
		}},
		{Words: []string{"l", "m", "n"}, Pos: []api.Pos{at(6, 1), at(6, 2), at(6, 6)}},
		{Words: []string{"l", "m", "{"}, Pos: []api.Pos{at(6, 1), at(6, 2), at(7, 1)}},
	}
	if l, p, e := tree.Parse(text); !alike(l, want) || p != (api.Pos{}) || e != api.OK {
		t.Error(shown(l), l, p, e)
	}
	for s, want := range map[string]string{
		"": "", "  \n # a\n": "", "/* a { */": "", "a;": "a; ", "a b c;": "a b c; ", "a{}": "a { } ", "a b{c{}d;}": "a b { c { } d; } ",
		"a[b];": "a b; ", "a b[c d e];": "a b c; a b d; a b e; ", "a [ b b ];": "a b; a b; ", "a; a; a{} a{}": "a; a; a { } a { } ",
		"groups { g { a; } } apply-groups g;": "groups { g { a; } } apply-groups g; ",
		`"a { b; }";`:                         "a { b; }; ", `a "[" b "]" ";";`: "a [ b ] ;; ",
	} {
		if got := shown(made(t, s)); got != want {
			t.Errorf("%q: %q, not %q", s, got, want)
		}
	}
}

// P14.1: what is refused, and where.
func TestRefused(t *testing.T) {
	for _, x := range []struct {
		s string
		p api.Pos
		e api.Errno
	}{
		{"a { b", at(1, 5), api.ErrOpen}, {"a {", at(1, 3), api.ErrOpen}, {"a }", at(1, 3), api.ErrWord}, {"a [ ];", at(1, 5), api.ErrWord}, {"[ a ];", at(1, 1), api.ErrWord},
		{"a", at(1, 1), api.ErrOpen}, {"a b\nc", at(1, 1), api.ErrOpen}, {"a [", at(1, 1), api.ErrOpen}, {"a b [ c", at(1, 1), api.ErrOpen}, {"a [ b ]", at(1, 1), api.ErrOpen},
		{"a { b { c;", at(1, 7), api.ErrOpen}, {"a { b { c; }", at(1, 3), api.ErrOpen}, {"a { b { } c d", at(1, 11), api.ErrOpen}, {"a; b", at(1, 4), api.ErrOpen}, {"a {\n", at(1, 3), api.ErrOpen},
		{";", at(1, 1), api.ErrWord}, {"{", at(1, 1), api.ErrWord}, {"{ }", at(1, 1), api.ErrWord}, {"}", at(1, 1), api.ErrWord}, {"]", at(1, 1), api.ErrWord}, {"[", at(1, 1), api.ErrWord},
		{"a;;", at(1, 3), api.ErrWord}, {"a { } }", at(1, 7), api.ErrWord}, {"a { };", at(1, 6), api.ErrWord}, {"a ]", at(1, 3), api.ErrWord}, {"a [ b", at(1, 1), api.ErrOpen},
		{"a [ [", at(1, 5), api.ErrWord}, {"a [ b [", at(1, 7), api.ErrWord}, {"a [ b ;", at(1, 7), api.ErrWord}, {"a [ b {", at(1, 7), api.ErrWord}, {"a [ b }", at(1, 7), api.ErrWord}, {"a [ ;", at(1, 5), api.ErrWord},
		{"a [ b ] c", at(1, 9), api.ErrWord}, {"a [ b ] {", at(1, 9), api.ErrWord}, {"a [ b ] }", at(1, 9), api.ErrWord}, {"a [ b ] [", at(1, 9), api.ErrWord}, {"a [ b ] ]", at(1, 9), api.ErrWord},
		{"a { b }", at(1, 7), api.ErrWord}, {"a { ; }", at(1, 5), api.ErrWord}, {"a { { } }", at(1, 5), api.ErrWord}, {"a {\n b;\n}\n}", at(4, 1), api.ErrWord},
		// What lex refuses comes first, wherever it stands.
		{"} \"a", at(1, 3), api.ErrOpen}, {"; /* a", at(1, 3), api.ErrOpen}, {"}\n\t", at(2, 1), api.ErrBlank}, {"a { \x7f", at(1, 5), api.ErrBlank},
		{strings.Repeat("\n", api.MaxLines) + "a;", at(api.MaxLines+1, 1), api.ErrFull}, {"}" + strings.Repeat(" ", api.MaxText), api.Pos{}, api.ErrFull},
		// What stands in quotes is a word.
		{`"a;"`, at(1, 1), api.ErrOpen}, {`a "}"`, at(1, 1), api.ErrOpen}, {`a { "b" }`, at(1, 9), api.ErrWord},
	} {
		if l, p, e := tree.Parse(x.s); len(l) > 0 || p != x.p || e != x.e {
			t.Errorf("%.40q: %s %v %v, not %v %v", x.s, shown(l), p, e, x.p, x.e)
		}
	}
}

// P14.1: so many braces may stand in one another, and no more.
func TestDeep(t *testing.T) {
	most := strings.Repeat("a{", tree.MaxDeep)
	for _, within := range []string{"", "b;", "b[c d];", "b c;d;"} {
		l := made(t, most+within+strings.Repeat("}", tree.MaxDeep)+"a{}")
		if len(l) != 2 {
			t.Error(within, len(l))
		}
		for range tree.MaxDeep {
			if len(l) == 0 || !l[0].Block {
				t.Fatal(within, shown(l))
			}
			l = l[0].Kids
		}
		if !alike(placed(l), placed(made(t, within))) {
			t.Error(within, shown(l))
		}
	}
	for behind, want := range map[string]struct {
		col int
		e   api.Errno
	}{
		"b{": {2, api.ErrDeep}, "b{}": {2, api.ErrDeep}, "b c {}": {5, api.ErrDeep}, "b{;": {2, api.ErrDeep}, "b{c{": {2, api.ErrDeep}, "c;b{": {4, api.ErrDeep}, "\"\"{": {3, api.ErrDeep},
		"": {0, api.ErrOpen}, "b": {1, api.ErrOpen}, "b;": {0, api.ErrOpen}, "b;;{": {3, api.ErrWord}, "b[{": {3, api.ErrWord}, "b[c]{": {5, api.ErrWord}, "}b{b{": {5, api.ErrDeep},
	} {
		if l, p, e := tree.Parse(most + behind); len(l) > 0 || p != at(1, len(most)+want.col) || e != want.e {
			t.Errorf("%q: %v %v", behind, p, e)
		}
	}
	// Braces beside one another are not in one another.
	if l := made(t, strings.Repeat("a{b{}}", 1000)); len(l) != 1000 {
		t.Error(len(l))
	}
}

var statement = regexp.MustCompile(`w+(\[w+\])?;|w+\{S*\}`)

// allowed tells whether the kinds of tokens, of a word w, are statements one behind the other.
func allowed(kinds string) bool {
	for {
		fewer := statement.ReplaceAllString(kinds, "S")
		if fewer == kinds {
			return strings.Trim(kinds, "S") == ""
		}
		kinds = fewer
	}
}

// mayStand tells whether something could follow that makes these kinds statements.
func mayStand(kinds string) bool {
	for _, end := range []string{"", ";", "];", "w];"} {
		if closed := kinds + end; allowed(closed + strings.Repeat("}", max(0, strings.Count(closed, "{")-strings.Count(closed, "}")))) {
			return true
		}
	}
	return false
}

// kindsOf is the kinds of tokens.
func kindsOf(tokens []lex.Token) string {
	var b strings.Builder
	for _, t := range tokens {
		b.WriteByte("?w{};[]"[t.Kind])
	}
	return b.String()
}

// openAt is where it stands, what neither ended nor was opened.
func openAt(tokens []lex.Token) api.Pos {
	kinds := kindsOf(tokens)
	if last := strings.LastIndexAny(kinds, "{};"); last < len(kinds)-1 {
		return tokens[last+1].Pos
	}
	open := 0
	for i := len(kinds) - 1; ; i-- {
		open += strings.Count(kinds[i:i+1], "{") - strings.Count(kinds[i:i+1], "}")
		if open > 0 {
			return tokens[i].Pos
		}
	}
}

// plainStatements puts tokens that are allowed together.
func plainStatements(tokens []lex.Token) []tree.Node {
	lists, heads := [][]tree.Node{nil}, []tree.Node{}
	var ahead tree.Node
	var each []lex.Token
	for i, t := range tokens {
		top := len(lists) - 1
		switch t.Kind {
		case lex.Plain:
			if each != nil {
				each = append(each, t)
				continue
			}
			ahead.Words, ahead.Pos = append(ahead.Words, t.Text), append(ahead.Pos, t.Pos)
		case lex.Left:
			each = []lex.Token{}
		case lex.End:
			if tokens[i-1].Kind != lex.Right {
				lists[top] = append(lists[top], ahead)
			}
			for _, w := range each {
				lists[top] = append(lists[top], tree.Node{Words: append(slices.Clone(ahead.Words), w.Text), Pos: append(slices.Clone(ahead.Pos), w.Pos)})
			}
			ahead, each = tree.Node{}, nil
		case lex.Open:
			ahead.Block = true
			heads, lists = append(heads, ahead), append(lists, nil)
			ahead = tree.Node{}
		case lex.Close:
			head := heads[top-1]
			head.Kids = lists[top]
			heads, lists = heads[:top-1], lists[:top]
			lists[top-1] = append(lists[top-1], head)
		}
	}
	return lists[0]
}

// checkParse holds what Parse answers of a text that lex takes, and in which few braces are open, against what the chapter says.
func checkParse(t *testing.T, s string) {
	t.Helper()
	tokens, _, e := lex.Tokens(s)
	if e != api.OK {
		t.Fatal(s, e)
	}
	kinds := kindsOf(tokens)
	var want []tree.Node
	var pos api.Pos
	switch {
	case allowed(kinds):
		want = plainStatements(tokens)
	case mayStand(kinds):
		pos, e = openAt(tokens), api.ErrOpen
	default:
		i := 0
		for mayStand(kinds[:i+1]) {
			i++
		}
		pos, e = tokens[i].Pos, api.ErrWord
	}
	if l, p, got := tree.Parse(s); !alike(l, want) || p != pos || got != e {
		t.Errorf("%q: %s %v %v, not %s %v %v", s, shown(l), p, got, shown(want), pos, e)
	}
}

// P14.1: all texts of few words and signs.
func TestParseAll(t *testing.T) {
	parts := []string{"ab", "{", "}", ";", "[", "]"}
	var grow func(tokens []string)
	grow = func(tokens []string) {
		s := strings.Join(tokens, " ")
		checkParse(t, s)
		if !mayStand(strings.ReplaceAll(strings.Join(tokens, ""), "ab", "w")) {
			// Refused where it was, whatever follows.
			for _, behind := range []string{" {", " ;", "\n}", " a ; ]"} {
				checkParse(t, s+behind)
			}
			return
		}
		for _, x := range parts {
			if len(tokens) < 8 {
				grow(append(slices.Clone(tokens), x))
			}
		}
	}
	grow(nil)
}

// P14.1: all short texts, their blanks, comments and quotes too.
func TestParseTexts(t *testing.T) {
	probe.Texts("a{};[\" \n", 5, func(s string) {
		if _, want, e := lex.Tokens(s); e != api.OK {
			if l, p, got := tree.Parse(s); len(l) > 0 || p != want || got != e {
				t.Errorf("%q: %v %v", s, p, got)
			}
			return
		}
		checkParse(t, s)
	})
}

// P14.1: longer texts, and what is a few tokens away from them.
func TestParseRandom(t *testing.T) {
	r := rand.New(rand.NewSource(14))
	parts := []string{"a", "bc", "\"d e\"", "{", "}", ";", "[", "]", "f;", "g {", "h [ i j ];", "/* k */", "\n"}
	for range 3000 {
		s := strings.Fields(shown(some(r, 4, 3, "a", "b", "c/d")))
		for range r.Intn(3) {
			k := r.Intn(len(s) + 1)
			s = slices.Concat(s[:k], []string{parts[r.Intn(len(parts))]}, s[min(len(s), k+r.Intn(3)):])
		}
		checkParse(t, strings.Join(s, " "))
	}
}

// P14.1: as long a text as may be, and as many leaves of one as it can hold.
func TestParseLong(t *testing.T) {
	s := strings.Repeat("a;", api.MaxText/2)
	if l := made(t, s); len(l) != api.MaxText/2 || l[len(l)-1].Pos[0] != at(1, api.MaxText-1) {
		t.Error(len(l))
	}
	l := made(t, strings.Repeat("a ", 1000)+"["+strings.Repeat(" b", 1000)+"];")
	if len(l) != 1000 {
		t.Fatal(len(l))
	}
	for i, n := range l {
		if len(n.Words) != 1001 || len(n.Pos) != 1001 || n.Words[1000] != "b" || n.Pos[999] != at(1, 1999) || n.Pos[1000] != at(1, 2003+2*i) {
			t.Fatal(i, len(n.Words))
		}
	}
	open := strings.Repeat("a ", api.MaxText/4) + "[" + strings.Repeat(" b", api.MaxText/4-1)
	if l, p, e := tree.Parse(open); len(l) > 0 || p != at(1, 1) || e != api.ErrOpen {
		t.Error(p, e)
	}
}
