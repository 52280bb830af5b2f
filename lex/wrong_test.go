package lex_test

import (
	"slices"
	"strings"
	"sync"
	"testing"
	"unsafe"

	"waymark/api"
	"waymark/lex"
)

// checkBoth looks whether both calls refuse a text so.
func checkBoth(t *testing.T, s string, p api.Pos, e api.Errno) {
	t.Helper()
	checkLines(t, s, nil, p, e)
	checkTokens(t, s, nil, p, e)
}

// Each byte may stand, or is refused where it stands first: also in what is left out, in comments and in quotes.
func TestBytes(t *testing.T) {
	for c := range 256 {
		b := string([]byte{byte(c)})
		may := c == '\n' || c >= 0x20 && c <= 0x7E
		for _, ahead := range []string{"", "a", "a ", "! ", "# ", "/* ", "\n\na", "\n", "a \"b"} {
			s := ahead + b + "\x00"
			at := len(ahead)
			if may {
				at++
			}
			checkBoth(t, s, place(s, at), api.ErrBlank)
			if _, p, e := lex.Lines(ahead + b); may && (p != api.Pos{} || e != api.OK) {
				t.Errorf("Lines(%q): %v %v", ahead+b, p, e)
			}
		}
	}
	known := map[string]api.Pos{
		"a\t": {Line: 1, Col: 2}, "\t": {Line: 1, Col: 1}, "a\r\n": {Line: 1, Col: 2}, "a\n\r": {Line: 2, Col: 1}, "! \x7f": {Line: 1, Col: 3}, "# \x1f": {Line: 1, Col: 3},
		"/*\n\x00*/": {Line: 2, Col: 1}, "\"\xff\"": {Line: 1, Col: 2}, "a\n b\u00e9": {Line: 2, Col: 3}, "\ufeffa": {Line: 1, Col: 1},
	}
	for s, p := range known {
		checkBoth(t, s, p, api.ErrBlank)
	}
}

// So many bytes may be, and no more.
func TestTooLong(t *testing.T) {
	for _, c := range []string{"a", " ", "!", "#", "{", "/"} {
		s := strings.Repeat(c, api.MaxText)
		want, p, e := plainLines(s)
		checkLines(t, s, want, p, e)
		tokens, p, e := plainTokens(s)
		checkTokens(t, s, tokens, p, e)
		checkBoth(t, s+c, api.Pos{}, api.ErrFull)
	}
	long := strings.Repeat("a", api.MaxText)
	checkBoth(t, long+"\n", api.Pos{}, api.ErrFull)
	// Named ahead of all other errors.
	checkBoth(t, "\t"+long, api.Pos{}, api.ErrFull)
	checkBoth(t, `"`+long, api.Pos{}, api.ErrFull)
	checkBoth(t, strings.Repeat("\n", api.MaxText+1), api.Pos{}, api.ErrFull)
	checkBoth(t, strings.Repeat("\xff", 1<<20), api.Pos{}, api.ErrFull)
}

// So many lines may be, and no more: one begins with its first byte.
func TestTooManyLines(t *testing.T) {
	over := api.Pos{Line: api.MaxLines + 1, Col: 1}
	for _, one := range []string{"\n", "!\n", "#\n", "a b\n", " \n"} {
		s := strings.Repeat(one, api.MaxLines)
		want, p, e := plainLines(s)
		checkLines(t, s, want, p, e)
		tokens, p, e := plainTokens(s)
		checkTokens(t, s, tokens, p, e)
		for _, more := range []string{"\n", "a", " ", "!", "#", "a b c", "a\nb", "\t", "\"", "/*"} {
			checkBoth(t, s+more, over, api.ErrFull)
		}
		without := strings.TrimSuffix(s, "\n")
		if l, _, e := lex.Lines(without); e != api.OK || len(l) != len(want) {
			t.Errorf("%q, many times: %d lines, %v", one, len(l), e)
		}
	}
	// A comment's lines are lines too.
	comment := "/*" + strings.Repeat("\n", api.MaxLines-1) + "*/"
	checkTokens(t, comment, nil, api.Pos{}, api.OK)
	checkTokens(t, comment+"\na", nil, over, api.ErrFull)
	checkTokens(t, comment+"\n", nil, api.Pos{}, api.OK)
}

// Of a line too many and a byte that may not stand, the first one counts; at one place the line.
func TestWhichFirst(t *testing.T) {
	full := strings.Repeat("\n", api.MaxLines)
	over := api.Pos{Line: api.MaxLines + 1, Col: 1}
	checkBoth(t, "\t"+full+"a", api.Pos{Line: 1, Col: 1}, api.ErrBlank)
	checkBoth(t, full[1:]+"\t\na", api.Pos{Line: api.MaxLines, Col: 1}, api.ErrBlank)
	checkBoth(t, full+"\t", over, api.ErrFull)
	checkBoth(t, full+"a\t", over, api.ErrFull)
	// What is not closed comes behind both, wherever it stands.
	checkBoth(t, "\"\n\t", api.Pos{Line: 2, Col: 1}, api.ErrBlank)
	checkBoth(t, "/* a \t", api.Pos{Line: 1, Col: 6}, api.ErrBlank)
	checkBoth(t, "/*"+full+"a", over, api.ErrFull)
	checkBoth(t, "\""+full+"a", over, api.ErrFull)
}

// What is not closed is refused where it begins, and the first one of several.
func TestNotClosed(t *testing.T) {
	open := map[string]api.Pos{
		"a \"b\n\"": {Line: 1, Col: 3}, "/* a": {Line: 1, Col: 1}, "/*": {Line: 1, Col: 1}, "/*/": {Line: 1, Col: 1}, "/* *": {Line: 1, Col: 1}, "/* * /": {Line: 1, Col: 1}, "a/*": {Line: 1, Col: 2},
		"\"": {Line: 1, Col: 1}, "\"a": {Line: 1, Col: 1}, "\"\n\"": {Line: 1, Col: 1}, "a\"": {Line: 1, Col: 2}, "\"\"\"": {Line: 1, Col: 3}, "{\n \"a\" \"b": {Line: 2, Col: 6},
		"/**/ /*": {Line: 1, Col: 6}, "/* /*\n*/ a\n /* */ /* \"": {Line: 3, Col: 8}, "\"a\n/*": {Line: 1, Col: 1}, "/*\n\"": {Line: 1, Col: 1}, "# \"\n \"": {Line: 2, Col: 2}, "\" /* \" /*": {Line: 1, Col: 8},
		"a/*/b": {Line: 1, Col: 2}, "a \"b # c": {Line: 1, Col: 3}, "a \"b /* c */": {Line: 1, Col: 3},
	}
	for s, p := range open {
		checkTokens(t, s, nil, p, api.ErrOpen)
		if _, at, e := lex.Lines(s); e != api.OK || (at != api.Pos{}) {
			t.Errorf("Lines(%q): %v %v", s, at, e)
		}
	}
	// Braces and brackets are not lex's to close.
	for _, s := range []string{"{", "}", "[", "]", "}{", "{[}]", "a;;{"} {
		if _, p, e := lex.Tokens(s); e != api.OK || (p != api.Pos{}) {
			t.Errorf("Tokens(%q): %v %v", s, p, e)
		}
	}
}

// R3: what the caller writes into an answer, behind its ends too, is not seen elsewhere.
func TestAnswersAreTheCallers(t *testing.T) {
	const s = "a b c\n d e\nf g h i\nj"
	want, _, _ := plainLines(s)
	l, _, _ := lex.Lines(s)
	for i := range l {
		_ = append(l[i].Words, word("more", 9, 9), word("more", 9, 9))
		room := l[i].Words[:cap(l[i].Words)]
		for k := len(l[i].Words); k < len(room); k++ {
			room[k] = word("room", 9, 9)
		}
		if !slices.EqualFunc(l, want, sameLine) {
			t.Errorf("behind line %d: %v", i, l)
		}
	}
	for i := range l {
		clear(l[i].Words[:cap(l[i].Words)])
		for k := i + 1; k < len(l); k++ {
			if !sameLine(l[k], want[k]) {
				t.Errorf("line %d, when %d is written over: %v", k, i, l[k])
			}
		}
	}
	checkLines(t, s, want, api.Pos{}, api.OK)
	tokens, _, _ := lex.Tokens("a { b; }")
	clear(tokens[:cap(tokens)])
	again, p, e := plainTokens("a { b; }")
	checkTokens(t, "a { b; }", again, p, e)
}

// R3: no text that is answered keeps the one that was handed in.
func TestTextsAreNotKept(t *testing.T) {
	const s = "ab { \"c d\" ; }\n ef"
	want, p, e := plainTokens(s)
	lines, _, _ := plainLines(s)
	room := []byte(s)
	over := unsafe.String(&room[0], len(room))
	got, at, err := lex.Tokens(over)
	rows, _, _ := lex.Lines(over)
	for i := range room {
		room[i] = '#'
	}
	if !slices.Equal(got, want) || at != p || err != e {
		t.Errorf("Tokens: %v", got)
	}
	if !slices.EqualFunc(rows, lines, sameLine) {
		t.Errorf("Lines: %v", rows)
	}
}

// R2: calls do not see one another, at one time either.
func TestAtOneTime(t *testing.T) {
	texts := []string{"a b\n c", "x { y \"z\"; }\n", "\"", "/* */ w", "! q\n r", "a\t"}
	var group sync.WaitGroup
	for i := range 8 {
		group.Go(func() {
			for k := range 200 {
				s := texts[(i+k)%len(texts)]
				want, p, e := plainLines(s)
				checkLines(t, s, want, p, e)
				tokens, p, e := plainTokens(s)
				checkTokens(t, s, tokens, p, e)
			}
		})
	}
	group.Wait()
}
