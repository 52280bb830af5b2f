package lex_test

import (
	"regexp"
	"slices"
	"strings"
	"testing"

	"waymark/api"
	"waymark/lex"
)

// place is that of the byte with so many ahead of it.
func place(s string, ahead int) api.Pos {
	return api.Pos{Line: 1 + strings.Count(s[:ahead], "\n"), Col: ahead - strings.LastIndex(s[:ahead], "\n")}
}

// offset tells how many bytes stand ahead of a place.
func offset(s string, p api.Pos) int {
	ahead := 0
	for range p.Line - 1 {
		ahead += strings.Index(s[ahead:], "\n") + 1
	}
	return ahead + p.Col - 1
}

// plainFault is what is wrong with a text's bytes, whatever it is a text of.
func plainFault(s string) (api.Pos, api.Errno) {
	if len(s) > 65536 {
		return api.Pos{}, api.ErrFull
	}
	ends := 0
	for i := range len(s) {
		if ends == 4096 {
			return place(s, i), api.ErrFull
		}
		if s[i] == '\n' {
			ends++
		} else if s[i] < 0x20 || s[i] > 0x7E {
			return place(s, i), api.ErrBlank
		}
	}
	return api.Pos{}, api.OK
}

var notBlank = regexp.MustCompile(`[^ ]+`)

// plainLines cuts a text of lines, each by itself.
func plainLines(s string) ([]lex.Line, api.Pos, api.Errno) {
	if p, e := plainFault(s); e != api.OK {
		return nil, p, e
	}
	var list []lex.Line
	for i, row := range strings.Split(s, "\n") {
		at := notBlank.FindAllStringIndex(row, -1)
		if len(at) == 0 || row[at[0][0]] == '!' {
			continue
		}
		l := lex.Line{Indent: at[0][0]}
		for _, w := range at {
			l.Words = append(l.Words, lex.Word{Text: row[w[0]:w[1]], Pos: api.Pos{Line: i + 1, Col: w[0] + 1}})
		}
		list = append(list, l)
	}
	return list, api.Pos{}, api.OK
}

var (
	between = regexp.MustCompile(`^(?s:[ \n]|#[^\n]*|/\*.*?\*/)`)
	quoted  = regexp.MustCompile(`^"([^"\n]*)"`)
	wordEnd = regexp.MustCompile(`[ \n{};\[\]"#]|/\*|$`)
)

// plainTokens cuts a text of braces by patterns.
func plainTokens(s string) ([]lex.Token, api.Pos, api.Errno) {
	if p, e := plainFault(s); e != api.OK {
		return nil, p, e
	}
	var list []lex.Token
	for at := 0; at < len(s); {
		rest := s[at:]
		if m := between.FindString(rest); m != "" {
			at += len(m)
			continue
		}
		one := lex.Token{Pos: place(s, at)}
		length := 1
		if k := strings.IndexByte("{};[]", rest[0]); k >= 0 {
			one.Kind = []uint8{lex.Open, lex.Close, lex.End, lex.Left, lex.Right}[k]
			one.Text = rest[:1]
		} else if m := quoted.FindStringSubmatch(rest); m != nil {
			one.Kind, one.Text, length = lex.Plain, m[1], len(m[0])
		} else {
			length = wordEnd.FindStringIndex(rest)[0]
			one.Kind, one.Text = lex.Plain, rest[:length]
		}
		if length == 0 {
			return nil, one.Pos, api.ErrOpen
		}
		list = append(list, one)
		at += length
	}
	return list, api.Pos{}, api.OK
}

// sameLine says whether two lines are the same.
func sameLine(a, b lex.Line) bool {
	return a.Indent == b.Indent && slices.Equal(a.Words, b.Words)
}

// checkLines holds what Lines answers against what it should.
func checkLines(t *testing.T, s string, want []lex.Line, p api.Pos, e api.Errno) {
	t.Helper()
	l, at, got := lex.Lines(s)
	if !slices.EqualFunc(l, want, sameLine) || at != p || got != e {
		t.Errorf("Lines(%.60q): %v %v %v, not %v %v %v", s, l, at, got, want, p, e)
	}
}

// checkTokens holds what Tokens answers against what it should.
func checkTokens(t *testing.T, s string, want []lex.Token, p api.Pos, e api.Errno) {
	t.Helper()
	l, at, got := lex.Tokens(s)
	if !slices.Equal(l, want) || at != p || got != e {
		t.Errorf("Tokens(%.60q): %v %v %v, not %v %v %v", s, l, at, got, want, p, e)
	}
}
