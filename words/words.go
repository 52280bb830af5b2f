// Package words takes the words of a statement off, one behind the other, as both languages of configurations read theirs; see shared/doc/13-flat.md and shared/doc/15-nested.md.
package words

import (
	"waymark/api"
	"waymark/lex"
)

// Row is a statement's words. Once one of its methods has failed, all do: none takes a word off any more, each answers zero, and the first fault stays.
type Row struct {
	list  []lex.Word // those that have not been taken off
	first api.Pos
	taken api.Pos // the one that was taken off last
	end   api.Pos
	fault api.Pos
	e     api.Errno
}

// New is a row of words, of which the place where a missing one is told is end.
func New(list []lex.Word, end api.Pos) Row {
	r := Row{list: list, end: end}
	if len(list) > 0 {
		r.first = list[0].Pos
	}
	return r
}

// Fault is what was refused first, and where.
func (r *Row) Fault() (api.Pos, api.Errno) { return r.fault, r.e }

// Refuse fails at the word that was taken off last.
func (r *Row) Refuse(e api.Errno) { r.Fail(r.taken, e) }

// RefuseAll fails at the first word.
func (r *Row) RefuseAll(e api.Errno) { r.Fail(r.first, e) }

// Fail fails at a place, which may be that of another statement; OK is no fault.
func (r *Row) Fail(pos api.Pos, e api.Errno) {
	if r.e == api.OK && e != api.OK {
		r.fault, r.e = pos, e
	}
}

// More tells whether a word is left.
func (r *Row) More() bool { return r.e == api.OK && len(r.list) > 0 }

// End fails if a word is left.
func (r *Row) End() {
	if r.More() {
		r.Word()
		r.Refuse(api.ErrWord)
	}
}

// Word takes a word off.
func (r *Row) Word() string {
	if !r.More() {
		r.Fail(r.end, api.ErrWord)
		return ""
	}
	w := r.list[0]
	r.list, r.taken = r.list[1:], w.Pos
	return w.Text
}

// Next takes a word off if it is this one.
func (r *Row) Next(word string) bool {
	is := r.More() && r.list[0].Text == word
	if is {
		r.Word()
	}
	return is
}

// One takes a word off, which must be one of these.
func (r *Row) One(words ...string) string {
	for _, w := range words {
		if r.Next(w) {
			return w
		}
	}
	r.Word()
	r.Refuse(api.ErrWord)
	return ""
}
