package tree

import (
	"slices"

	"waymark/api"
)

const (
	grouping = "groups"       // the container that has the groups
	applying = "apply-groups" // what leaves begin with that apply some
	anyWord  = "<*>"          // what each word fits
)

// heirs are lists, to which groups pass on.
type heirs struct {
	groups map[string]*list
	fresh  int // how many containers were put
}

// isGroups tells whether a statement of the outermost list is the container that has the groups.
func (i *item) isGroups() bool {
	return i.block && len(i.words) == 1 && i.words[0] == grouping
}

// applies tells whether a statement begins as those that apply groups.
func (i *item) applies() bool { return len(i.words) > 0 && i.words[0] == applying }

// pattern tells whether a container fits by some word more than one.
func (i *item) pattern() bool { return slices.Contains(i.words, anyWord) }

// takeGroups takes the groups out of the outermost list. Their container stays, for it may stand in a leaf's place; what is passed on to it then comes into no group.
func (l *list) takeGroups() *list {
	var groups list
	if i := l.find(true, keyOf([]string{grouping})); i != nil {
		groups, i.kids = i.kids, groups
	}
	return &groups
}

// named is groups by their names.
func named(groups *list) map[string]*list {
	m := map[string]*list{}
	for _, g := range groups.items {
		m[g.words[0]] = &g.kids
	}
	return m
}

// groupsFault is the first fault of groups.
func groupsFault(groups *list) (api.Pos, api.Errno) {
	for _, g := range groups.items {
		if !g.block || len(g.words) != 1 {
			return g.place(0), api.ErrWord
		}
		if pos, e := g.kids.fault(inGroup); e != api.OK {
			return pos, e
		}
	}
	return api.Pos{}, api.OK
}

// fault is the first fault of statements, of which one by itself is told by of; each comes ahead of what it has.
func (l *list) fault(of func(*item) (api.Pos, api.Errno)) (api.Pos, api.Errno) {
	for _, i := range l.items {
		pos, e := of(i)
		if e == api.OK && i.block {
			pos, e = i.kids.fault(of)
		}
		if e != api.OK {
			return pos, e
		}
	}
	return api.Pos{}, api.OK
}

// inGroup is the fault of a statement within a group.
func inGroup(i *item) (api.Pos, api.Errno) {
	if i.applies() {
		return i.place(0), api.ErrWord
	}
	return api.Pos{}, api.OK
}

// elsewhere is the fault of a statement that is in no group.
func (h *heirs) elsewhere(i *item) (api.Pos, api.Errno) {
	if !i.applies() {
		return api.Pos{}, api.OK
	}
	if i.block || len(i.words) == 1 {
		return i.place(0), api.ErrWord
	}
	for k, name := range i.words[1:] {
		if h.groups[name] == nil {
			return i.place(k + 1), api.ErrRef
		}
	}
	return api.Pos{}, api.OK
}

// inherit puts into a list, and into what its containers have, what the groups that they apply pass on.
func (h *heirs) inherit(l *list) {
	for _, i := range l.items {
		if i.block {
			h.inherit(&i.kids)
		}
	}
	passed := map[string]int{}
	for _, name := range l.applied() {
		// A group that is named again passes nothing on, if there is no container that wasn't there when it was named last.
		if fresh, again := passed[name]; again && fresh == h.fresh {
			continue
		}
		passed[name] = h.fresh
		h.pass(h.groups[name], l)
	}
	// They are found still where one looks by words, but no statement of a group begins as they do.
	l.items = slices.DeleteFunc(l.items, (*item).applies)
}

// applied is the names of the groups that a list applies.
func (l *list) applied() []string {
	var names []string
	for _, i := range l.items {
		if i.applies() {
			names = append(names, i.words[1:]...)
		}
	}
	return names
}

// pass passes on to a list what a group has, or a container in one.
func (h *heirs) pass(from, to *list) {
	for _, s := range from.items {
		if s.block {
			for _, c := range h.fitting(s, to) {
				h.pass(&s.kids, &c.kids)
			}
		} else if !to.holds(s) {
			to.put(s)
		}
	}
}

// fitting is the containers of a list to which one of a group passes on; it is put there itself, if it can be and none fits it.
func (h *heirs) fitting(s *item, l *list) []*item {
	if s.pattern() {
		return l.matching(s.words)
	}
	c := l.find(true, s.key)
	if c == nil {
		c = &item{words: s.words, pos: s.pos, block: true, key: s.key}
		h.fresh++
		l.add(c)
	}
	return []*item{c}
}

// matching is the containers of a list whose words fit a pattern.
func (l *list) matching(pattern []string) []*item {
	fits := func(is, asked string) bool { return asked == is || asked == anyWord }
	var all []*item
	for _, c := range l.items {
		if c.block && slices.EqualFunc(c.words, pattern, fits) {
			all = append(all, c)
		}
	}
	return all
}
