package tree

import (
	"slices"
	"strconv"
	"strings"

	"waymark/api"
)

// item is a statement in a list. Its words and places may be those that were handed in: they are not changed, and copied where they are told.
type item struct {
	words []string
	pos   []api.Pos
	block bool
	key   string // of its words
	kids  list
}

// title is what only one statement of a list has: what it is, and its words.
type title struct {
	block bool
	key   string
}

// slot is what a leaf has in common with what stands in its place: how many words there are, and all but the last one; of one word that one.
type slot struct {
	words int
	ahead string
}

// list is merged statements.
type list struct {
	items  []*item
	titles map[title]*item
	slots  map[slot]struct{} // of all, once they were asked for
}

// keyOf is a text that no other words have.
func keyOf(words []string) string {
	var b strings.Builder
	for _, w := range words {
		b.WriteString(keyed(w))
	}
	return b.String()
}

// keyed is what a word adds to a key: its length tells where the next one begins.
func keyed(word string) string { return strconv.Itoa(len(word)) + ":" + word }

func (i *item) slot() slot {
	ahead := i.key
	if n := len(i.words); n > 1 {
		ahead = ahead[:len(ahead)-len(keyed(i.words[n-1]))]
	}
	return slot{len(i.words), ahead}
}

// place is where a word stands; 0 0, if that isn't told.
func (i *item) place(word int) api.Pos {
	if word < len(i.pos) {
		return i.pos[word]
	}
	return api.Pos{}
}

// take merges statements with those that are there.
func (l *list) take(nodes []Node) {
	for _, n := range nodes {
		key := keyOf(n.Words)
		i := l.find(n.Block, key)
		if i != nil && !n.Block {
			continue
		}
		if i == nil {
			i = &item{words: n.Words, pos: n.Pos, block: n.Block, key: key}
			l.add(i)
		}
		i.kids.take(n.Kids)
	}
}

// find is the container, or the leaf, whose words have a key; nil, if there is none.
func (l *list) find(block bool, key string) *item { return l.titles[title{block, key}] }

// add puts a statement behind all, where find finds it.
func (l *list) add(i *item) {
	if l.titles == nil {
		l.titles = map[title]*item{}
	}
	l.titles[title{i.block, i.key}] = i
	l.put(i)
}

// put puts a statement behind all.
func (l *list) put(i *item) {
	l.items = append(l.items, i)
	if l.slots != nil {
		l.slots[i.slot()] = struct{}{}
	}
}

// holds tells whether a statement stands in a leaf's place.
func (l *list) holds(leaf *item) bool {
	if l.slots == nil {
		l.slots = map[slot]struct{}{}
		for _, i := range l.items {
			l.slots[i.slot()] = struct{}{}
		}
	}
	_, is := l.slots[leaf.slot()]
	return is
}

// nodes tells the statements, in lists of their own.
func (l *list) nodes() []Node {
	nodes := make([]Node, len(l.items))
	for k, i := range l.items {
		nodes[k] = Node{Words: slices.Clone(i.words), Pos: slices.Clone(i.pos), Block: i.block, Kids: i.kids.nodes()}
	}
	return nodes
}
