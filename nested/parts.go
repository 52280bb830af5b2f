package nested

import (
	"strconv"
	"strings"

	"waymark/api"
)

// block is a block's text.
func block(head, within string) string { return head + "{" + within + "}" }

// part is a block's text, that is left out if nothing is within.
func part(head, within string) string {
	if within == "" {
		return ""
	}
	return block(head, within)
}

// terms are the texts of terms, of which what is within is told of each thing of a list. Their names say nothing: a, b, .., z, aa, ab, ..
func terms[T any](list []T, within func(T) string) string {
	i := -1
	return all(list, func(x T) string {
		i++
		return block("term "+label(i), within(x))
	})
}

// label is a term's name.
func label(i int) string {
	last := string([]byte{'a' + byte(i%26)})
	if i < 26 {
		return last
	}
	return label(i/26-1) + last
}

// leaf is a leaf's text out of its words, a blank ahead of each; there is none, if there are no words.
func leaf(words string) string {
	if words == "" {
		return ""
	}
	return words[1:] + ";"
}

// What follows is such words.

// flag are words, if they are to be said.
func flag(words string, said bool) string {
	if !said {
		return ""
	}
	return " " + words
}

// number is what is said by words and a number, if it isn't the one that holds where none is said.
func number(words string, n, unsaid int) string {
	return flag(words+" "+strconv.Itoa(n), n != unsaid)
}

// named is what is said by words and a name, if there is one.
func named(words, name string) string { return flag(words+" "+name, name != "") }

// listed is what is said by words and a list's texts, if it has some.
func listed(words string, list []uint32, text func(uint32) string) string {
	var b strings.Builder
	for _, n := range list {
		b.WriteString(" " + text(n))
	}
	return flag(words+b.String(), len(list) > 0)
}

// ports are what is said by a word and ports, if they are not all.
func ports(word string, s api.Span) string {
	some := digits(s.Lo)
	if s.Hi != s.Lo {
		some += "-" + digits(s.Hi)
	}
	return flag(word+" "+some, s != allPorts())
}

// verdict is one of two words.
func verdict(is bool, yes, no string) string {
	if is {
		return yes
	}
	return no
}

func digits(n uint32) string { return strconv.FormatUint(uint64(n), 10) }
