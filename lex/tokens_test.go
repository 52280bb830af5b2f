package lex_test

import (
	"strings"
	"testing"

	"waymark/api"
	"waymark/lex"
	"waymark/probe"
)

// plain is a word of a text of braces, at a place.
func plain(text string, line, col int) lex.Token {
	return lex.Token{Kind: lex.Plain, Text: text, Pos: api.Pos{Line: line, Col: col}}
}

// sign is a sign of a kind, at a place.
func sign(kind uint8, text string, line, col int) lex.Token {
	return lex.Token{Kind: kind, Text: text, Pos: api.Pos{Line: line, Col: col}}
}

// P7.2: the kinds have numbers of their own.
func TestKinds(t *testing.T) {
	if got := [...]uint8{lex.Plain, lex.Open, lex.Close, lex.End, lex.Left, lex.Right}; got != [...]uint8{1, 2, 3, 4, 5, 6} {
		t.Error(got)
	}
}

// P7.2: known texts of words and signs.
func TestTokensKnown(t *testing.T) {
	known := []struct {
		text string
		want []lex.Token
	}{
		{"", nil}, {" ", nil}, {"\n", nil}, {" \n \n", nil},
		{"a", []lex.Token{plain("a", 1, 1)}},
		{"{};[]", []lex.Token{sign(lex.Open, "{", 1, 1), sign(lex.Close, "}", 1, 2), sign(lex.End, ";", 1, 3), sign(lex.Left, "[", 1, 4), sign(lex.Right, "]", 1, 5)}},
		{"a{b}c;d[e]f", []lex.Token{
			plain("a", 1, 1), sign(lex.Open, "{", 1, 2), plain("b", 1, 3), sign(lex.Close, "}", 1, 4), plain("c", 1, 5), sign(lex.End, ";", 1, 6),
			plain("d", 1, 7), sign(lex.Left, "[", 1, 8), plain("e", 1, 9), sign(lex.Right, "]", 1, 10), plain("f", 1, 11)}},
		{"a { b \"c d\"; } # e", []lex.Token{
			plain("a", 1, 1), sign(lex.Open, "{", 1, 3), plain("b", 1, 5), plain("c d", 1, 7), sign(lex.End, ";", 1, 12), sign(lex.Close, "}", 1, 14)}},
		{" ab\n\n  cd ;\nef", []lex.Token{plain("ab", 1, 2), plain("cd", 3, 3), sign(lex.End, ";", 3, 6), plain("ef", 4, 1)}},
		{"!a * ~ <*>", []lex.Token{plain("!a", 1, 1), plain("*", 1, 4), plain("~", 1, 6), plain("<*>", 1, 8)}},
	}
	for _, k := range known {
		checkTokens(t, k.text, k.want, api.Pos{}, api.OK)
	}
}

// P7.2: comments, and what begins none.
func TestComments(t *testing.T) {
	a, b := plain("a", 1, 1), plain("b", 1, 2)
	known := []struct {
		text string
		want []lex.Token
	}{
		{"#", nil}, {"# a { \" /* ;", nil}, {"#\n", nil}, {"/**/", nil}, {"/* a { \" # ; */", nil}, {"/* /* */", nil}, {"/***/", nil}, {"/*\n\n*/", nil}, {"/*/*/", nil},
		{"a#b", []lex.Token{a}}, {"a #b\nb", []lex.Token{a, plain("b", 2, 1)}}, {"a##\n#\nb", []lex.Token{a, plain("b", 3, 1)}},
		{"# */ a\nb", []lex.Token{plain("b", 2, 1)}}, {"# /*\nb", []lex.Token{plain("b", 2, 1)}}, {"# \"\nb", []lex.Token{plain("b", 2, 1)}},
		{"a/*x*/b", []lex.Token{a, plain("b", 1, 7)}}, {"a/**/b", []lex.Token{a, plain("b", 1, 6)}},
		{"a/* # */b", []lex.Token{a, plain("b", 1, 9)}}, {"a/* \" */b", []lex.Token{a, plain("b", 1, 9)}}, {"a/*\n * x\n */ b", []lex.Token{a, plain("b", 3, 5)}},
		{"/*a*//*b*/b", []lex.Token{plain("b", 1, 11)}}, {"/* ** */*/", []lex.Token{plain("*/", 1, 9)}},
		// A / or a * alone, and a */ with nothing to close, are bytes of words.
		{"a/b", []lex.Token{plain("a/b", 1, 1)}}, {"/", []lex.Token{plain("/", 1, 1)}}, {"*/", []lex.Token{plain("*/", 1, 1)}}, {"//", []lex.Token{plain("//", 1, 1)}},
		{"/ *", []lex.Token{plain("/", 1, 1), plain("*", 1, 3)}}, {"a*/b", []lex.Token{plain("a*/b", 1, 1)}}, {"a/", []lex.Token{plain("a/", 1, 1)}},
		{"//* */", []lex.Token{plain("/", 1, 1)}}, {"*/*/ */", []lex.Token{plain("*", 1, 1)}}, {"a//**/b", []lex.Token{plain("a/", 1, 1), plain("b", 1, 7)}},
		{"{/**/}", []lex.Token{sign(lex.Open, "{", 1, 1), sign(lex.Close, "}", 1, 6)}}, {";#", []lex.Token{sign(lex.End, ";", 1, 1)}},
		{"ab", []lex.Token{plain("ab", 1, 1)}}, {"{b", []lex.Token{sign(lex.Open, "{", 1, 1), b}},
	}
	for _, k := range known {
		checkTokens(t, k.text, k.want, api.Pos{}, api.OK)
	}
}

// P7.2: quoted words are words, whatever stands in them.
func TestQuoted(t *testing.T) {
	known := []struct {
		text string
		want []lex.Token
	}{
		{`""`, []lex.Token{plain("", 1, 1)}}, {`" "`, []lex.Token{plain(" ", 1, 1)}}, {`"a"`, []lex.Token{plain("a", 1, 1)}}, {`"a b"`, []lex.Token{plain("a b", 1, 1)}},
		{`"{"`, []lex.Token{plain("{", 1, 1)}}, {`"}"`, []lex.Token{plain("}", 1, 1)}}, {`";"`, []lex.Token{plain(";", 1, 1)}}, {`"["`, []lex.Token{plain("[", 1, 1)}}, {`"]"`, []lex.Token{plain("]", 1, 1)}},
		{`"#"`, []lex.Token{plain("#", 1, 1)}}, {`"/*"`, []lex.Token{plain("/*", 1, 1)}}, {`"# a" b`, []lex.Token{plain("# a", 1, 1), plain("b", 1, 7)}}, {`"/*" a "*/"`, []lex.Token{plain("/*", 1, 1), plain("a", 1, 6), plain("*/", 1, 8)}},
		// They need no blank ahead or behind.
		{`a"b"c`, []lex.Token{plain("a", 1, 1), plain("b", 1, 2), plain("c", 1, 5)}}, {`"a""b"`, []lex.Token{plain("a", 1, 1), plain("b", 1, 4)}}, {`"""" `, []lex.Token{plain("", 1, 1), plain("", 1, 3)}},
		{`{"a"}`, []lex.Token{sign(lex.Open, "{", 1, 1), plain("a", 1, 2), sign(lex.Close, "}", 1, 5)}}, {`"a"/**/"b"`, []lex.Token{plain("a", 1, 1), plain("b", 1, 8)}}, {`"a"#"`, []lex.Token{plain("a", 1, 1)}},
		{"\n \"a  b\"\n\"c\"", []lex.Token{plain("a  b", 2, 2), plain("c", 3, 1)}}, {`"\"`, []lex.Token{plain(`\`, 1, 1)}}, {`'a b'`, []lex.Token{plain("'a", 1, 1), plain("b'", 1, 4)}},
	}
	for _, k := range known {
		checkTokens(t, k.text, k.want, api.Pos{}, api.OK)
	}
}

// P7.2: all texts of a few bytes, those that are refused too.
func TestTokensEach(t *testing.T) {
	look := func(s string) {
		want, p, e := plainTokens(s)
		checkTokens(t, s, want, p, e)
	}
	probe.Texts("a\"/*#{ \n\t", 5, look)
	probe.Texts("/*\"\n", 8, look)
	probe.Texts("a{};[]\"", 5, look)
}

// P7.2: each byte at each place.
func TestTokensChanged(t *testing.T) {
	for _, s := range []string{"system { host-name \"a b\"; } # note\n/* x\n y */ l [ 1 2 ];", "\"\"", "/**/", strings.Repeat("a \n", 5)} {
		probe.Changed(s, func(s string) {
			want, p, e := plainTokens(s)
			checkTokens(t, s, want, p, e)
		})
	}
}
