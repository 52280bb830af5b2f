package words

import (
	"math"
	"strings"

	"waymark/addr"
	"waymark/api"
	"waymark/lex"
	"waymark/lists"
)

// Name takes a name off.
func (r *Row) Name() string {
	w := r.Word()
	if !lex.Name(w) {
		r.Refuse(api.ErrWord)
		return ""
	}
	return w
}

// Number takes a number off, which must be one from least to most.
func (r *Row) Number(least, most int) int {
	w := r.Word()
	r.Digits(w)
	return r.Within(w, least, most)
}

// Digits fails, if one of these parts of the word that was taken off last has not a number's form.
func (r *Row) Digits(parts ...string) {
	for _, s := range parts {
		if !digits(s) {
			r.Refuse(api.ErrWord)
		}
	}
}

// Within is the number that is said by a part of the word that was taken off last, which must be one from least to most.
func (r *Row) Within(part string, least, most int) int {
	n, few := lex.Number(part, most)
	if !few || n < least {
		r.Refuse(api.ErrNumber)
	}
	if r.e != api.OK {
		return 0
	}
	return n
}

// Option takes a number off, which must be one from least to most, if a word ahead says it.
func (r *Row) Option(word string, least, most, unsaid int) int {
	if r.Next(word) {
		return r.Number(least, most)
	}
	return unsaid
}

// Named takes a name off, if a word ahead says it.
func (r *Row) Named(word string) string {
	if r.Next(word) {
		return r.Name()
	}
	return ""
}

// digits tells whether a text has a number's form, however great the number is.
func digits(s string) bool {
	return s != "" && strings.Trim(s, "0123456789") == "" && (s[0] != '0' || s == "0")
}

// AS takes the number of an autonomous system off.
func (r *Row) AS() uint32 { return uint32(r.Number(1, math.MaxUint32)) }

// ASes takes all that is left off: numbers of autonomous systems, one or more.
func (r *Row) ASes() []uint32 { return rest(r, r.AS) }

// Addr takes an address off.
func (r *Row) Addr() api.Addr {
	a, e := addr.Parse(r.Word())
	if e != api.OK {
		r.Refuse(api.ErrWord)
	}
	return a
}

// Hop takes an address off, which must not be 0.0.0.0.
func (r *Row) Hop() api.Addr {
	a := r.Addr()
	if a == 0 {
		r.Refuse(api.ErrNumber)
	}
	return a
}

// Prefix takes a prefix off.
func (r *Row) Prefix() api.Prefix {
	p, e := addr.ParsePrefix(r.Word())
	switch e {
	case api.OK:
	case api.ErrMask:
		r.Refuse(api.ErrMask)
	default:
		r.Refuse(api.ErrWord)
	}
	return p
}

// Community takes a community off.
func (r *Row) Community() uint32 {
	c, e := lists.Parse(r.Word())
	if e != api.OK {
		r.Refuse(api.ErrWord)
	}
	return c
}

// Communities takes all that is left off: communities, one or more.
func (r *Row) Communities() []uint32 { return rest(r, r.Community) }

// rest takes all that is left off, one or more, each by a method.
func rest(r *Row, take func() uint32) []uint32 {
	list := []uint32{take()}
	for r.More() {
		list = append(list, take())
	}
	if r.e != api.OK {
		return nil
	}
	return list
}
