package lex_test

import (
	"testing"

	"waymark/api"
	"waymark/lex"
	"waymark/probe"
)

// word is a word at a place.
func word(text string, line, col int) lex.Word {
	return lex.Word{Text: text, Pos: api.Pos{Line: line, Col: col}}
}

// row is a line of an indent and words.
func row(indent int, words ...lex.Word) lex.Line {
	return lex.Line{Indent: indent, Words: words}
}

// P7.1: known texts of lines.
func TestLinesKnown(t *testing.T) {
	known := []struct {
		text string
		want []lex.Line
	}{
		{"", nil}, {"\n", nil}, {" ", nil}, {"\n\n \n   ", nil}, {"!", nil}, {"  !", nil}, {"! a b\n  ! c\n!\n", nil}, {"!\n!a", nil},
		{"a  b\n! c\n\n d", []lex.Line{row(0, word("a", 1, 1), word("b", 1, 4)), row(1, word("d", 4, 2))}},
		{"a", []lex.Line{row(0, word("a", 1, 1))}},
		{"a\n", []lex.Line{row(0, word("a", 1, 1))}},
		{"a \n", []lex.Line{row(0, word("a", 1, 1))}},
		{"   abc", []lex.Line{row(3, word("abc", 1, 4))}},
		{"\n\nabc de f", []lex.Line{row(0, word("abc", 3, 1), word("de", 3, 5), word("f", 3, 8))}},
		{"  a  b  \n c", []lex.Line{row(2, word("a", 1, 3), word("b", 1, 6)), row(1, word("c", 2, 2))}},
		{"a\nb\nc", []lex.Line{row(0, word("a", 1, 1)), row(0, word("b", 2, 1)), row(0, word("c", 3, 1))}},
		// A ! that is not the first one of a line is a byte like others.
		{"a! !b !", []lex.Line{row(0, word("a!", 1, 1), word("!b", 1, 4), word("!", 1, 7))}},
		{"a\n!\nb", []lex.Line{row(0, word("a", 1, 1)), row(0, word("b", 3, 1))}},
		// What means something in a text of braces means nothing here.
		{"a{b; \"c d\" #e /*f [g]", []lex.Line{row(0, word("a{b;", 1, 1), word("\"c", 1, 6), word("d\"", 1, 9), word("#e", 1, 12), word("/*f", 1, 15), word("[g]", 1, 19))}},
		{"# a", []lex.Line{row(0, word("#", 1, 1), word("a", 1, 3))}},
		{"~ }", []lex.Line{row(0, word("~", 1, 1), word("}", 1, 3))}},
	}
	for _, k := range known {
		checkLines(t, k.text, k.want, api.Pos{}, api.OK)
	}
}

// P7.1: all texts of a few bytes, those that are refused too.
func TestLinesEach(t *testing.T) {
	probe.Texts("a! \n\t", 7, func(s string) {
		want, p, e := plainLines(s)
		checkLines(t, s, want, p, e)
	})
}

// P7.1: each byte at each place.
func TestLinesChanged(t *testing.T) {
	for _, s := range []string{"hostname a\ninterface e0\n  ospf cost 5 \n\n! note\n", " ! a\nb!  c", "\n\n"} {
		probe.Changed(s, func(s string) {
			want, p, e := plainLines(s)
			checkLines(t, s, want, p, e)
		})
	}
}
