package tree

import (
	"slices"
	"strings"
)

// indent stands ahead of a line, for each brace that is open.
const indent = "    "

// printable tells whether statements that stand in so many braces have a text.
func printable(l []Node, deep int) bool {
	for _, n := range l {
		if len(n.Words) == 0 || slices.ContainsFunc(n.Words, unwritable) {
			return false
		}
		if n.Block && (deep == MaxDeep || !printable(n.Kids, deep+1)) || !n.Block && len(n.Kids) > 0 {
			return false
		}
	}
	return true
}

// unwritable tells whether no text has a word.
func unwritable(word string) bool {
	for i := range len(word) {
		if c := word[i]; c < ' ' || c > '~' || c == '"' {
			return true
		}
	}
	return false
}

// quoted is a word as it stands in a text.
func quoted(word string) string {
	if word == "" || strings.ContainsAny(word, " {};[]#") || strings.Contains(word, "/*") {
		return `"` + word + `"`
	}
	return word
}

// writer writes statements, a line each.
type writer struct{ b strings.Builder }

func (w *writer) list(l []Node, deep int) {
	for _, n := range l {
		w.words(n.Words, deep)
		if !n.Block {
			w.b.WriteString(";\n")
			continue
		}
		w.b.WriteString(" {\n")
		w.list(n.Kids, deep+1)
		w.b.WriteString(strings.Repeat(indent, deep) + "}\n")
	}
}

// words begins a line with words.
func (w *writer) words(words []string, deep int) {
	gap := strings.Repeat(indent, deep)
	for _, word := range words {
		w.b.WriteString(gap + quoted(word))
		gap = " "
	}
}
