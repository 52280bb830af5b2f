package tree_test

import (
	"math/rand"
	"slices"
	"strings"
	"testing"

	"waymark/api"
	"waymark/tree"
)

// P14.2: inherited statements.
func TestInherit(t *testing.T) {
	for _, x := range [][2]string{
		{"", ""},
		{"groups { g { e <*> { cost 5; up; } } } apply-groups g; e x { cost 7; } e y { }", "e x { cost 7; up; } e y { cost 5; up; } "},
		// A leaf: what stands in its place is of as many words, all but the last one the same.
		{"groups { g { a; b; c 1; d 1 2; } } apply-groups g; a; c 2; d 1 3; e;", "a; c 2; d 1 3; e; b; "},
		{"groups { g { c 1; } } apply-groups g; c; c 1 2; d 1;", "c; c 1 2; d 1; c 1; "},
		{"groups { g { d 1 2; } } apply-groups g; d 2 2; d 1; d;", "d 2 2; d 1; d; d 1 2; "},
		{"groups { g { a; } } apply-groups g; b;", "b; a; "},
		{"groups { g { 1 2 3; } } apply-groups g; 12 3; 1 23;", "12 3; 1 23; 1 2 3; "},
		// A container may stand in a leaf's place too.
		{"groups { g { a 1; b; } } apply-groups g; a 2 { } b { }", "a 2 { } b { } "},
		{"groups { g { groups; a; } } apply-groups g;", "a; "},
		{"groups { g { groups 1; groups; } } groups 2; groups 3 { } apply-groups g;", "groups 2; groups 3 { } "},
		// Of several leaves of one place the first one comes in.
		{"groups { g { m [ 1 2 3 ]; n 1; } } apply-groups g;", "m 1; n 1; "},
		{"groups { g { m 1 { } m 2; n 2; n 1 { } } } apply-groups g;", "m 1 { } n 2; n 1 { } "},
		// A container passes on to each one that fits; without <*> it is put, if none does.
		{"groups { g { a { b; } } } apply-groups g;", "a { b; } "},
		{"groups { g { a { b; } } } apply-groups g; a { c; } a x { }", "a { c; b; } a x { } "},
		{"groups { g { a { b; } } } apply-groups g; a;", "a; a { b; } "},
		{"groups { g { <*> { b; } } } apply-groups g;", ""},
		{"groups { g { <*> { b; } } } apply-groups g; a { } c d { } e; f { b; }", "a { b; } c d { } e; f { b; } "},
		{"groups { g { a <*> { b; } <*> x { c; } <*> <*> { d; } } } apply-groups g; a x { } a y { } z x { } z z { } a { }", "a x { b; c; d; } a y { b; d; } z x { c; d; } z z { d; } a { } "},
		{"groups { g { <*> { b; } <*> x { c; } } } apply-groups g; <*> { } y x;", "<*> { b; } y x; "},
		{"groups { g { a <*> { c; } } } apply-groups g; <*> x { } <*> <*> { }", "<*> x { } <*> <*> { } "},
		{"groups { g { a <*> { c; } a b { d; } } } apply-groups g; a <*> { } <*> b { }", "a <*> { c; } <*> b { } a b { d; } "},
		{"groups { g { a { <*> { b; } } } } apply-groups g; a { c { } d { } }", "a { c { b; } d { b; } } "},
		{"groups { g { a { c { b; } } } } apply-groups g; a { d { } }", "a { d { } c { b; } } "},
		{"groups { g { <*> { c { b; } } } } apply-groups g; a { }", "a { c { b; } } "},
		{"groups { g { a { <*> { b; } c { } <*> { d; } } } } apply-groups g;", "a { c { } } "},
		{"groups { g { a { c { } <*> { d; } } } } apply-groups g;", "a { c { d; } } "},
		{"groups { g { <*> 1; \"<*>\"; } } apply-groups g; a 1;", "a 1; <*> 1; <*>; "},
		{"groups { g { a { b 1; b 2; } } } apply-groups g;", "a { b 1; } "},
		// In order: what was put ahead is fitted too.
		{"groups { g { a { } <*> { b; } } } apply-groups g;", "a { b; } "},
		{"groups { g { <*> { b; } a { } } } apply-groups g;", "a { } "},
		{"groups { g { <*> { b; } a { } } } apply-groups g g;", "a { b; } "},
		{"groups { g { <*> { <*> { z; } p { } } q { } } } apply-groups g g g g;", "q { p { z; } } "},
		{"groups { g { <*> { b; } } h { a { } } } apply-groups g h g;", "a { b; } "},
		{"groups { g { <*> { b; } } h { a { } } } apply-groups g h;", "a { } "},
		{"groups { g { a 1; } h { a 2; b; } } apply-groups g; apply-groups h;", "a 1; b; "},
		{"groups { g { a 1; } h { a 2; b; } } apply-groups [ h g ];", "a 2; b; "},
		{"groups { g { a 1; } h { a 2; b; } } apply-groups h g;", "a 2; b; "},
		{"groups { g { a 1; } h { a 2; b; } } apply-groups h; c; apply-groups g;", "c; a 2; b; "},
		// Containers apply groups too: the Kids first.
		{"groups { g { b 1; } } a { apply-groups g; c; } d { }", "a { c; b 1; } d { } "},
		{"groups { g { b 1; } } a { d { apply-groups g; } }", "a { d { b 1; } } "},
		{"groups { g { b 1; } h { a { b 2; c; } } } apply-groups h; a { apply-groups g; }", "a { b 1; c; } "},
		{"groups { g { b 1; } h { <*> { b 2; c; } } } apply-groups h; a { apply-groups g; e { } } d { }", "a { e { } b 1; c; } d { b 2; c; } "},
		{"groups { g { x 1; } h { b { x 2; y; } } i { a { b { x 3; y 1; z; } } } } apply-groups i; a { apply-groups h; b { apply-groups g; } }", "a { b { x 1; y; y 1; z; } } "},
		// Groups stand where they like, and are nothing themselves.
		{"apply-groups g; a { apply-groups h; } groups { g { b; } h { c; } }", "a { c; } b; "},
		{"groups { g { a; } } b; groups { h { c; } } apply-groups h g;", "b; c; a; "},
		{"groups { g { a; } }", ""},
		{"groups { }", ""},
		{"groups; groups x { a; } groups { } b { groups { g; } }", "groups; groups x { a; } b { groups { g; } } "},
		{"groups { g { } } apply-groups g;", ""},
		{"groups { apply-groups { a; } \"\" { b; } groups { c; } <*> { d; } } apply-groups apply-groups \"\"; e { apply-groups <*> groups; }", "e { d; c; } a; b; "},
		{"groups { g { a; } } groups { g { b; } }  apply-groups g;", "a; b; "},
		// What comes into the container groups is no group's, and is left out with it.
		{"groups { g { groups { h { x; } g { y; } } <*> { <*> { z; } } a; } h { b; } } apply-groups g g h; c { d { } }", "c { d { z; } } a; b; "},
		{"groups { g { groups { h { x; } } } h { b; } } apply-groups g h;", "b; "},
		{"groups { g { groups { x; } } } a { apply-groups g; }", "a { groups { x; } } "},
		{"groups { g { groups { x; } } } a { apply-groups g; groups { y; } }", "a { groups { y; x; } } "},
		// Merged, also where no group is.
		{"a; a { b; } a; a { b; c; }", "a; a { b; c; } "},
		{"groups { g { d; } } a { apply-groups g; } a { b; apply-groups g; }", "a { b; d; } "},
	} {
		l := made(t, x[0])
		if got, p, e := tree.Inherit(l); shown(got) != x[1] || p != (api.Pos{}) || e != api.OK {
			t.Errorf("%s: %s%v %v, not %s", x[0], shown(got), p, e, x[1])
		}
		if want, p, e := plainInherit(l); shown(want) != x[1] || p != (api.Pos{}) || e != api.OK {
			t.Errorf("plain: %s: %s%v %v, not %s", x[0], shown(want), p, e, x[1])
		}
	}
}

// P14.2: what is passed on has the places that it has in its group.
func TestInheritPlaces(t *testing.T) {
	l := made(t, "groups { g {\na { b 1; }\nc; } }\napply-groups g;\nd; a {\n}")
	got, _, e := tree.Inherit(l)
	want := []tree.Node{
		{Words: []string{"d"}, Pos: []api.Pos{at(5, 1)}},
		{Words: []string{"a"}, Pos: []api.Pos{at(5, 4)}, Block: true, Kids: []tree.Node{{Words: []string{"b", "1"}, Pos: []api.Pos{at(2, 5), at(2, 7)}}}},
		{Words: []string{"c"}, Pos: []api.Pos{at(3, 1)}},
	}
	if e != api.OK || !alike(got, want) {
		t.Error(got, e)
	}
	got, _, e = tree.Inherit(l[:2])
	want[1].Pos[0] = at(2, 1)
	if e != api.OK || !alike(got, want[1:]) {
		t.Error(got, e)
	}
}

// P14.2: what is refused, and where.
func TestInheritRefused(t *testing.T) {
	for _, x := range []struct {
		s string
		p api.Pos
		e api.Errno
	}{
		{"apply-groups h;", at(1, 14), api.ErrRef},
		{"groups { g { } } apply-groups g h i;", at(1, 33), api.ErrRef},
		{"groups { g { } } a {\n b {\n apply-groups G; } }", at(3, 15), api.ErrRef},
		{"groups x { g { } } apply-groups g;", at(1, 33), api.ErrRef},
		{"a { groups { g { } } } apply-groups g;", at(1, 37), api.ErrRef},
		{"groups { g { groups { h { } } } } apply-groups g h;", at(1, 50), api.ErrRef},
		{"groups { g { } } apply-groups groups;", at(1, 31), api.ErrRef},
		{"apply-groups \"\";", at(1, 14), api.ErrRef},
		{"apply-groups apply-groups;", at(1, 14), api.ErrRef},
		{"apply-groups [ a b ];", at(1, 16), api.ErrRef},
		{"groups { g { } } apply-groups <*>;", at(1, 31), api.ErrRef},
		// Of groups: what is no container of one word.
		{"groups { g; }", at(1, 10), api.ErrWord},
		{"groups { g h { } }", at(1, 10), api.ErrWord},
		{"groups { g { a; } h { } i; }", at(1, 25), api.ErrWord},
		{"groups { apply-groups g; g { } }", at(1, 10), api.ErrWord},
		{"groups { g [ a b ]; }", at(1, 10), api.ErrWord},
		{"groups { } a; groups { g; }", at(1, 24), api.ErrWord},
		// Within a group: what begins with apply-groups.
		{"groups { g { apply-groups h; } h { } }", at(1, 14), api.ErrWord},
		{"groups { g { a { apply-groups g; } } }", at(1, 18), api.ErrWord},
		{"groups { g { apply-groups { } } }", at(1, 14), api.ErrWord},
		{"groups { g { apply-groups; } }", at(1, 14), api.ErrWord},
		{"groups { g { a { b; apply-groups c d { } } } }", at(1, 21), api.ErrWord},
		{"groups { apply-groups { apply-groups a; } }", at(1, 25), api.ErrWord},
		// Elsewhere: a container that begins so, or a leaf of that word alone.
		{"apply-groups { }", at(1, 1), api.ErrWord},
		{"apply-groups g { }", at(1, 1), api.ErrWord},
		{"apply-groups;", at(1, 1), api.ErrWord},
		{"groups { g { } } a { apply-groups; }", at(1, 22), api.ErrWord},
		{"groups { g { } } a { b { apply-groups g { } } }", at(1, 26), api.ErrWord},
		{"groups { apply-groups { } } apply-groups apply-groups; apply-groups { }", at(1, 56), api.ErrWord},
		// In the order of the merged statements, those of groups first; a container ahead of what is in it.
		{"apply-groups h; groups { g; }", at(1, 26), api.ErrWord},
		{"apply-groups; a { apply-groups { } } groups { g { apply-groups h; } }", at(1, 51), api.ErrWord},
		{"apply-groups h; apply-groups;", at(1, 14), api.ErrRef},
		{"apply-groups; apply-groups h;", at(1, 1), api.ErrWord},
		{"a { apply-groups h; } apply-groups;", at(1, 18), api.ErrRef},
		{"a { b { apply-groups; } apply-groups h; }", at(1, 9), api.ErrWord},
		{"a { apply-groups h; b { apply-groups; } }", at(1, 18), api.ErrRef},
		{"a { } apply-groups h; a { apply-groups; }", at(1, 27), api.ErrWord},
		{"a { b { } } a { apply-groups h; } a { b { apply-groups; } }", at(1, 43), api.ErrWord},
		{"apply-groups { apply-groups h; }", at(1, 1), api.ErrWord},
		{"groups { g { a { } } h; g { apply-groups; } }", at(1, 29), api.ErrWord},
		{"groups { g { a { apply-groups b; } apply-groups c; } h; }", at(1, 18), api.ErrWord},
		{"groups { g h { apply-groups b; } }", at(1, 10), api.ErrWord},
		{"groups { g { apply-groups { apply-groups b; } } }", at(1, 14), api.ErrWord},
	} {
		if l, p, e := tree.Inherit(made(t, x.s)); len(l) > 0 || p != x.p || e != x.e {
			t.Errorf("%s: %s%v %v, not %v %v", x.s, shown(l), p, e, x.p, x.e)
		}
		if _, p, e := plainInherit(made(t, x.s)); p != x.p || e != x.e {
			t.Errorf("plain: %s: %v %v, not %v %v", x.s, p, e, x.p, x.e)
		}
	}
	// A word without a place has none to tell.
	for _, l := range [][]tree.Node{{leaf("apply-groups h")}, {leaf("apply-groups")}, {block("groups", leaf("g"))}, {block("groups", tree.Node{Block: true})}, {block("groups", block("g", leaf("apply-groups")))}, {{Words: []string{"apply-groups", "h"}, Pos: []api.Pos{at(1, 1)}}}} {
		if got, p, e := tree.Inherit(l); len(got) > 0 || p != (api.Pos{}) || e != api.ErrWord && e != api.ErrRef {
			t.Error(shown(l), p, e)
		}
	}
}

// config is statements of some words, to which groups g to i pass on much; if wrong, now and then one that may not stand.
func config(r *rand.Rand, wrong bool, words ...string) []tree.Node {
	// Words may make a container groups, but no groups.
	l := slices.DeleteFunc(some(r, 5, 3, words...), isGroups)
	for _, name := range []string{"g", "h", "i"} {
		l = append(l, block("groups", block(name, some(r, 4, 3, "a", "b", "<*>", "groups")...)))
	}
	var apply func(l []tree.Node, odds int) []tree.Node
	apply = func(l []tree.Node, odds int) []tree.Node {
		for i := range l {
			if l[i].Block && !isGroups(l[i]) {
				l[i].Kids = apply(l[i].Kids, 3)
			}
		}
		for r.Intn(odds) == 0 {
			names := [][]string{{"g"}, {"h"}, {"i"}, {"g", "h"}, {"h", "g", "h", "g"}, {"i", "i"}}
			if wrong {
				names = append(names, []string{"g", "j"}, nil)
			}
			n := tree.Node{Words: append([]string{"apply-groups"}, names[r.Intn(len(names))]...), Block: wrong && r.Intn(4) == 0}
			l = slices.Insert(l, r.Intn(len(l)+1), n)
		}
		return l
	}
	l = apply(l, 2)
	if wrong && r.Intn(3) == 0 {
		odd := [][]tree.Node{{leaf("x y")}, {block("x y")}, {block("g", leaf("apply-groups g"))}, {block("h", block("a", block("apply-groups")))}}
		l = append(l, block("groups", odd[r.Intn(len(odd))]...))
	}
	r.Shuffle(len(l), func(i, k int) { l[i], l[k] = l[k], l[i] })
	return placed(l)
}

// P14.2: any groups, applied anywhere.
func TestInheritRandom(t *testing.T) {
	r := rand.New(rand.NewSource(2))
	found := map[api.Errno]int{}
	for i := range 8000 {
		l := config(r, i%4 == 0, "a", "b", "a", "b", "groups", "<*>")
		want, pos, e := plainInherit(l)
		got, p, err := tree.Inherit(l)
		if !alike(got, want) || p != pos || err != e {
			t.Fatalf("%s: %s%v %v, not %s%v %v", shown(l), shown(got), p, err, shown(want), pos, e)
		}
		if e == api.OK && !tree.Same(got, slices.DeleteFunc(plainMerge(l), func(n tree.Node) bool { return isGroups(n) || applies(n) })) {
			found[api.Errno(-1)]++
		}
		found[e]++
	}
	if found[api.OK] < 4000 || found[-1] < 3000 || found[api.ErrWord] < 100 || found[api.ErrRef] < 100 {
		t.Error(found)
	}
}

// unapplied is merged statements without groups, and without those that apply some.
func unapplied(l []tree.Node) []tree.Node {
	var without func(l []tree.Node) []tree.Node
	without = func(l []tree.Node) []tree.Node {
		l = slices.DeleteFunc(l, applies)
		for i := range l {
			l[i].Kids = without(l[i].Kids)
		}
		return l
	}
	return without(slices.DeleteFunc(plainMerge(l), isGroups))
}

// ahead tells whether statements stand, in their order, ahead of all others of a list, and so what is in them.
func ahead(own, l []tree.Node) bool {
	if len(own) > len(l) {
		return false
	}
	for i, n := range own {
		if n.Block != l[i].Block || !slices.Equal(n.Words, l[i].Words) || !slices.Equal(n.Pos, l[i].Pos) || !ahead(n.Kids, l[i].Kids) {
			return false
		}
	}
	return true
}

// P14.6: what stands there itself stays; what passes nothing new on changes nothing; inherited is inherited.
func TestPassedOn(t *testing.T) {
	r := rand.New(rand.NewSource(6))
	for range 3000 {
		l := config(r, false, "a", "b", "groups")
		got, _, e := tree.Inherit(l)
		if e != api.OK {
			t.Fatal(shown(l), e)
		}
		own := unapplied(l)
		if !ahead(own, got) {
			t.Fatalf("%s: %s, not all of %s ahead", shown(l), shown(got), shown(own))
		}
		if again, _, e := tree.Inherit(got); e != api.OK || !alike(again, got) {
			t.Fatalf("%s: inherited again: %s%v", shown(got), shown(again), e)
		}
		// A group that says what is there already, applied ahead of all.
		more := append([]tree.Node{leaf("apply-groups old"), block("groups", block("old", own...))}, l...)
		if again, _, e := tree.Inherit(more); e != api.OK || !alike(again, got) {
			t.Fatalf("%s: %s, not %s", shown(more), shown(again), shown(got))
		}
		// No group that is applied.
		for _, l := range [][]tree.Node{own, append([]tree.Node{block("groups", block("old", own...))}, own...), slices.DeleteFunc(twin(l), func(n tree.Node) bool { return !isGroups(n) })} {
			want := slices.DeleteFunc(tree.Merge(l), isGroups)
			if again, _, e := tree.Inherit(l); e != api.OK || !alike(again, want) {
				t.Fatalf("%s: %s%v, not %s", shown(l), shown(again), e, shown(want))
			}
		}
	}
}

// P14.2, R1: a group that is named again and again, and would go through much each time.
func TestInheritOften(t *testing.T) {
	var group, own []tree.Node
	for i := range 2000 {
		word := strings.Repeat("x", i%7) + string(rune('a'+i%26)) + strings.Repeat("y", i/200)
		group = append(group, block("<*> "+word, leaf("b")))
		own = append(own, block(word+" c"), leaf("d "+word))
	}
	names := strings.Repeat(" g h", 20000)
	l := append(own, block("groups", block("g", group...), block("h", leaf("z"))), leaf("apply-groups"+names))
	if got, _, e := tree.Inherit(l); e != api.OK || !ahead(tree.Merge(own), got) {
		t.Error(len(got), e)
	}
}
