package tree_test

import (
	"math/rand"
	"slices"
	"strings"
	"testing"

	"waymark/api"
	"waymark/tree"
)

// What follows does what the chapter says, word for word, by going through all there is.

// twin is statements with lists of their own.
func twin(l []tree.Node) []tree.Node {
	var own []tree.Node
	for _, n := range l {
		n.Words, n.Pos, n.Kids = slices.Clone(n.Words), slices.Clone(n.Pos), twin(n.Kids)
		own = append(own, n)
	}
	return own
}

// alike tells whether statements are the same, with their places.
func alike(a, b []tree.Node) bool {
	if len(a) != len(b) {
		return false
	}
	for i := range a {
		if a[i].Block != b[i].Block || !slices.Equal(a[i].Words, b[i].Words) || !slices.Equal(a[i].Pos, b[i].Pos) || !alike(a[i].Kids, b[i].Kids) {
			return false
		}
	}
	return true
}

// plainMerge is merged statements.
func plainMerge(l []tree.Node) []tree.Node {
	var m []tree.Node
	for _, n := range twin(l) {
		at := slices.IndexFunc(m, func(x tree.Node) bool { return x.Block == n.Block && slices.Equal(x.Words, n.Words) })
		if at < 0 {
			m = append(m, n)
		} else if n.Block {
			m[at].Kids = append(m[at].Kids, n.Kids...)
		}
	}
	for i := range m {
		m[i].Kids = plainMerge(m[i].Kids)
	}
	return m
}

// isGroups tells whether a statement of the outermost list is the container groups.
func isGroups(n tree.Node) bool { return n.Block && slices.Equal(n.Words, []string{"groups"}) }

// applies tells whether a statement is a leaf that applies groups.
func applies(n tree.Node) bool { return !n.Block && n.Words[0] == "apply-groups" }

// plainFault is what Inherit refuses of merged statements.
func plainFault(m []tree.Node) (api.Pos, api.Errno) {
	type fault struct {
		pos api.Pos
		e   api.Errno
	}
	var all []fault
	var names []string
	var within, elsewhere func(l []tree.Node)
	within = func(l []tree.Node) {
		for _, n := range l {
			if n.Words[0] == "apply-groups" {
				all = append(all, fault{n.Pos[0], api.ErrWord})
			}
			within(n.Kids)
		}
	}
	elsewhere = func(l []tree.Node) {
		for _, n := range l {
			if n.Words[0] == "apply-groups" && (n.Block || len(n.Words) == 1) {
				all = append(all, fault{n.Pos[0], api.ErrWord})
			} else if n.Words[0] == "apply-groups" {
				for i := 1; i < len(n.Words); i++ {
					if !slices.Contains(names, n.Words[i]) {
						all = append(all, fault{n.Pos[i], api.ErrRef})
					}
				}
			}
			elsewhere(n.Kids)
		}
	}
	for _, n := range m {
		if isGroups(n) {
			for _, g := range n.Kids {
				if !g.Block || len(g.Words) > 1 {
					all = append(all, fault{g.Pos[0], api.ErrWord})
				}
				names = append(names, g.Words[0])
				within(g.Kids)
			}
		}
	}
	elsewhere(slices.DeleteFunc(slices.Clone(m), isGroups))
	if len(all) == 0 {
		return api.Pos{}, api.OK
	}
	return all[0].pos, all[0].e
}

// plainPass is a list to which what a group has was passed on.
func plainPass(from, to []tree.Node) []tree.Node {
	for _, s := range twin(from) {
		some := false
		for i := range to {
			n := len(s.Words)
			if n != len(to[i].Words) {
				continue
			}
			if !s.Block {
				some = some || n == 1 && s.Words[0] == to[i].Words[0] || n > 1 && slices.Equal(s.Words[:n-1], to[i].Words[:n-1])
			} else if to[i].Block && slices.EqualFunc(s.Words, to[i].Words, func(a, b string) bool { return a == b || a == "<*>" }) {
				some = true
				to[i].Kids = plainPass(s.Kids, to[i].Kids)
			}
		}
		if some || s.Block && slices.Contains(s.Words, "<*>") {
			continue
		}
		if s.Block {
			s.Kids = plainPass(s.Kids, nil)
		}
		to = append(to, s)
	}
	return to
}

// plainInherit is inherited statements.
func plainInherit(l []tree.Node) ([]tree.Node, api.Pos, api.Errno) {
	m := plainMerge(l)
	if pos, e := plainFault(m); e != api.OK {
		return nil, pos, e
	}
	groups := map[string][]tree.Node{}
	for _, n := range twin(m) {
		if isGroups(n) {
			for _, g := range n.Kids {
				groups[g.Words[0]] = g.Kids
			}
		}
	}
	var inherit func(c []tree.Node) []tree.Node
	inherit = func(c []tree.Node) []tree.Node {
		for i := range c {
			if c[i].Block {
				c[i].Kids = inherit(c[i].Kids)
			}
		}
		for _, n := range slices.DeleteFunc(slices.Clone(c), func(n tree.Node) bool { return !applies(n) }) {
			for _, name := range n.Words[1:] {
				c = plainPass(groups[name], c)
			}
		}
		return slices.DeleteFunc(c, applies)
	}
	return slices.DeleteFunc(inherit(m), isGroups), api.Pos{}, api.OK
}

// leaf is a leaf of words with blanks between.
func leaf(words string) tree.Node { return tree.Node{Words: strings.Split(words, " ")} }

// block is a container of words with blanks between.
func block(words string, kids ...tree.Node) tree.Node {
	return tree.Node{Words: strings.Split(words, " "), Block: true, Kids: kids}
}

// placed gives each word a place of its own.
func placed(l []tree.Node) []tree.Node {
	line := 0
	var all func(l []tree.Node)
	all = func(l []tree.Node) {
		for i := range l {
			line++
			l[i].Pos = nil
			for k := range l[i].Words {
				l[i].Pos = append(l[i].Pos, api.Pos{Line: line, Col: k + 1})
			}
			all(l[i].Kids)
		}
	}
	all(l)
	return l
}

// some is up to most statements, up to so deep, of up to three of some words.
func some(r *rand.Rand, most, deep int, words ...string) []tree.Node {
	var l []tree.Node
	for range r.Intn(most + 1) {
		var n tree.Node
		for range 1 + r.Intn(3)*r.Intn(2) {
			n.Words = append(n.Words, words[r.Intn(len(words))])
		}
		if n.Block = deep > 0 && r.Intn(3) > 0; n.Block {
			n.Kids = some(r, most, deep-1, words...)
		}
		l = append(l, n)
	}
	return l
}

// made is a text's statements.
func made(t *testing.T, s string) []tree.Node {
	t.Helper()
	l, p, e := tree.Parse(s)
	if e != api.OK || p != (api.Pos{}) {
		t.Fatal(s, p, e)
	}
	return l
}

// shown is statements in one line.
func shown(l []tree.Node) string {
	var b strings.Builder
	for _, n := range l {
		b.WriteString(strings.Join(n.Words, " "))
		if n.Block {
			b.WriteString(" { " + shown(n.Kids) + "}")
		} else {
			b.WriteString(";")
		}
		b.WriteString(" ")
	}
	return b.String()
}
