package lex_test

import (
	"math/rand"
	"slices"
	"strings"
	"testing"

	"waymark/api"
	"waymark/lex"
	"waymark/probe"
)

// behind says whether a place stands behind another one.
func behind(p, q api.Pos) bool {
	return p.Line > q.Line || p.Line == q.Line && p.Col > q.Col
}

// bareLines are lines without their words' places.
func bareLines(l []lex.Line) []lex.Line {
	var out []lex.Line
	for _, x := range l {
		bare := lex.Line{Indent: x.Indent}
		for _, w := range x.Words {
			bare.Words = append(bare.Words, lex.Word{Text: w.Text})
		}
		out = append(out, bare)
	}
	return out
}

// bareTokens are tokens without their places.
func bareTokens(l []lex.Token) []lex.Token {
	var out []lex.Token
	for _, x := range l {
		out = append(out, lex.Token{Kind: x.Kind, Text: x.Text})
	}
	return out
}

// P7.4: at the place of each word of a line stands that word, between blanks or ends; places rise.
func TestWhereWordsStand(t *testing.T) {
	probe.Texts("ab! \n", 6, func(s string) {
		l, _, _ := lex.Lines(s)
		last := api.Pos{}
		for _, x := range l {
			if len(x.Words) == 0 || x.Indent != x.Words[0].Pos.Col-1 {
				t.Errorf("%q: %v", s, x)
			}
			for _, w := range x.Words {
				at := offset(s, w.Pos)
				end := at + len(w.Text)
				if w.Text == "" || s[at:end] != w.Text || at > 0 && !strings.Contains(" \n", s[at-1:at]) || end < len(s) && !strings.Contains(" \n", s[end:end+1]) || strings.ContainsAny(w.Text, " \n") {
					t.Errorf("%q: %v", s, w)
				}
				if !behind(w.Pos, last) || w.Pos.Line != x.Words[0].Pos.Line {
					t.Errorf("%q: %v behind %v", s, w.Pos, last)
				}
				last = w.Pos
			}
		}
	})
}

// P7.4: at the place of each token stands its text, of a quoted one behind its ".
func TestWhereTokensStand(t *testing.T) {
	probe.Texts("a\"/*#; \n", 5, func(s string) {
		l, _, _ := lex.Tokens(s)
		last := api.Pos{}
		for _, x := range l {
			rest := s[offset(s, x.Pos):]
			if strings.HasPrefix(rest, `"`) {
				if !strings.HasPrefix(rest, `"`+x.Text+`"`) || x.Kind != lex.Plain {
					t.Errorf("%q: %v", s, x)
				}
			} else if x.Text == "" || !strings.HasPrefix(rest, x.Text) {
				t.Errorf("%q: %v", s, x)
			}
			if !behind(x.Pos, last) {
				t.Errorf("%q: %v behind %v", s, x.Pos, last)
			}
			last = x.Pos
		}
	})
}

// pick is one of some texts.
func pick(r *rand.Rand, list ...string) string { return list[r.Intn(len(list))] }

// P7.5: more blanks between words, and lines left out put in, change nothing but places.
func TestMoreBlanksInLines(t *testing.T) {
	r := rand.New(rand.NewSource(7))
	leftOut := func() string {
		return strings.Repeat(pick(r, "\n", "   \n", "!\n", "  ! a b\n", "!a\n", " !!  \n"), r.Intn(3))
	}
	for range 3000 {
		var want []lex.Line
		var less, more strings.Builder
		for range r.Intn(6) {
			l := lex.Line{Indent: r.Intn(4)}
			less.WriteString(strings.Repeat(" ", l.Indent))
			more.WriteString(leftOut() + strings.Repeat(" ", l.Indent))
			for k := range 1 + r.Intn(4) {
				w := pick(r, "a", "bc", "10.0.0.1", "x!", "{", "\"", "/*")
				if k > 0 {
					less.WriteString(" ")
					more.WriteString(" " + strings.Repeat(" ", r.Intn(4)))
				}
				less.WriteString(w)
				more.WriteString(w)
				l.Words = append(l.Words, lex.Word{Text: w})
			}
			less.WriteString("\n")
			more.WriteString(strings.Repeat(" ", r.Intn(3)) + "\n")
			want = append(want, l)
		}
		for _, s := range []string{less.String(), more.String() + leftOut(), strings.TrimSuffix(more.String(), "\n")} {
			if l, _, e := lex.Lines(s); e != api.OK || !slices.EqualFunc(bareLines(l), want, sameLine) {
				t.Errorf("Lines(%q): %v, not %v (%v)", s, l, want, e)
			}
		}
	}
}

// kindOf is what a text is as a token, if it isn't quoted.
func kindOf(s string) uint8 {
	if k := strings.Index("{};[]", s); len(s) == 1 && k >= 0 {
		return lex.Open + uint8(k)
	}
	return lex.Plain
}

// P7.5: more blanks, and comments, between words and signs change nothing but places.
func TestMoreBlanksInTokens(t *testing.T) {
	r := rand.New(rand.NewSource(7))
	gap := func() string {
		var b strings.Builder
		for range 1 + r.Intn(3) {
			b.WriteString(pick(r, " ", "\n", "   ", "/**/", "/* a { \" */", "# b } \"\n", "#\n", "/*\n # */", "/***/"))
		}
		return b.String()
	}
	for range 3000 {
		var want []lex.Token
		var less, more strings.Builder
		more.WriteString(gap())
		for range r.Intn(9) {
			w := pick(r, "a", "b/c", "*/", "//", "{", "}", ";", "[", "]", "!")
			x := lex.Token{Kind: kindOf(w), Text: w}
			if r.Intn(4) == 0 {
				x = lex.Token{Kind: lex.Plain, Text: pick(r, w, "", "a  b", "#", "/*")}
				w = `"` + x.Text + `"`
			}
			less.WriteString(w + " ")
			more.WriteString(w + gap())
			want = append(want, x)
		}
		for _, s := range []string{less.String(), more.String()} {
			if l, _, e := lex.Tokens(s); e != api.OK || !slices.Equal(bareTokens(l), want) {
				t.Errorf("Tokens(%q): %v, not %v (%v)", s, l, want, e)
			}
		}
	}
}

// P7.6: a line, written with a blank between its words behind the indent's blanks, is read as that line.
func TestLinesReadAgain(t *testing.T) {
	probe.Texts("ab! \n", 6, func(s string) {
		l, _, _ := lex.Lines(s)
		for _, x := range bareLines(l) {
			var words []string
			for _, w := range x.Words {
				words = append(words, w.Text)
			}
			again, _, e := lex.Lines(strings.Repeat(" ", x.Indent) + strings.Join(words, " "))
			if e != api.OK || len(again) != 1 || !sameLine(bareLines(again)[0], x) {
				t.Errorf("%q: %v, not %v (%v)", s, again, x, e)
			}
		}
	})
}

// P7.6: tokens, quoted ones in quotes and a blank behind each, are read as those.
func TestTokensReadAgain(t *testing.T) {
	probe.Texts("a\"/*#; \n", 5, func(s string) {
		l, _, _ := lex.Tokens(s)
		var b strings.Builder
		for _, x := range l {
			if s[offset(s, x.Pos)] == '"' {
				b.WriteString(`"` + x.Text + `" `)
			} else {
				b.WriteString(x.Text + " ")
			}
		}
		again, _, e := lex.Tokens(b.String())
		if e != api.OK || !slices.Equal(bareTokens(again), bareTokens(l)) {
			t.Errorf("%q: %v, not %v (%v)", s, again, l, e)
		}
	})
}
