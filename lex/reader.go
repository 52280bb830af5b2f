package lex

import (
	"strings"

	"waymark/api"
)

// nothing is the kind of what is no token: blanks and comments.
const nothing uint8 = 0

// reader goes through a text: what is left of it, and the place at which that begins.
type reader struct {
	left string
	pos  api.Pos
}

// start is a reader at a text's beginning.
func start(s string) *reader {
	return &reader{left: s, pos: api.Pos{Line: 1, Col: 1}}
}

// take takes some bytes off; no more are taken than are left.
func (r *reader) take(n int) string {
	taken := r.left[:min(n, len(r.left))]
	r.left = r.left[len(taken):]
	for i := range len(taken) {
		r.pos.Col++
		if taken[i] == '\n' {
			r.pos = api.Pos{Line: r.pos.Line + 1, Col: 1}
		}
	}
	return taken
}

// until takes off what stands ahead of where ends says yes for the first time; all that is left, if it never does.
func (r *reader) until(ends func() bool) string {
	all := r.left
	for !r.done() && !ends() {
		r.take(1)
	}
	return all[:len(all)-len(r.left)]
}

// line takes off a line of a text of lines; one that is left out has no words.
func (r *reader) line() Line {
	l := Line{Indent: len(r.until(r.behindSpaces))}
	if r.at("!") {
		r.until(r.atLineEnd)
	}
	for !r.done() && !r.atLineEnd() {
		pos := r.pos
		// A copy, so that a word that is kept doesn't keep the whole text.
		l.Words = append(l.Words, Word{Text: strings.Clone(r.until(r.atBlank)), Pos: pos})
		r.until(r.behindSpaces)
	}
	r.take(1)
	return l
}

// part takes off a token, a blank or a comment; false, if it is not closed.
func (r *reader) part() (kind uint8, text string, ok bool) {
	kind = r.sign()
	switch {
	case kind != nothing:
		return kind, r.take(1), true
	case r.atBlank():
		r.take(1)
		return nothing, "", true
	case r.at("#"):
		r.until(r.atLineEnd)
		return nothing, "", true
	case r.at("/*"):
		_, ok = r.between("/*", "*/", func() bool { return r.at("*/") })
		return nothing, "", ok
	case r.at(`"`):
		text, ok = r.between(`"`, `"`, func() bool { return r.at(`"`) || r.atLineEnd() })
		return Plain, text, ok
	}
	return Plain, r.until(r.atWordEnd), true
}

// between takes off the opening mark that is next, what follows up to where ends says yes, and the closing mark; false, if that doesn't stand there.
func (r *reader) between(opening, closing string, ends func() bool) (string, bool) {
	r.take(len(opening))
	text := r.until(ends)
	if !r.at(closing) {
		return "", false
	}
	r.take(len(closing))
	return text, true
}

// sign is the kind of the next byte as a sign; a byte must be left.
func (r *reader) sign() uint8 {
	switch r.left[0] {
	case '{':
		return Open
	case '}':
		return Close
	case ';':
		return End
	case '[':
		return Left
	case ']':
		return Right
	}
	return nothing
}

// done says whether nothing is left.
func (r *reader) done() bool { return r.left == "" }

// at says whether a mark is next.
func (r *reader) at(mark string) bool { return strings.HasPrefix(r.left, mark) }

// atLineEnd says whether the line's end is next.
func (r *reader) atLineEnd() bool { return r.at("\n") }

// atBlank says whether a blank is next.
func (r *reader) atBlank() bool { return r.at(" ") || r.atLineEnd() }

// behindSpaces says whether no blank of the line is next.
func (r *reader) behindSpaces() bool { return !r.at(" ") }

// atWordEnd says whether what is next ends a word of a text of braces.
func (r *reader) atWordEnd() bool {
	return r.atBlank() || r.sign() != nothing || r.at(`"`) || r.at("#") || r.at("/*")
}

// tooFar says whether more lines have begun than may be.
func (r *reader) tooFar() bool { return r.pos.Line > api.MaxLines }

// atFault says whether the next byte may not stand, or not there; a byte must be left.
func (r *reader) atFault() bool {
	c := r.left[0]
	return r.tooFar() || (c < ' ' || c > '~') && c != '\n'
}
