package tree_test

import (
	"math/rand"
	"slices"
	"strings"
	"sync"
	"testing"
	"unsafe"

	"waymark/api"
	"waymark/tree"
)

// stretch is where a list lies, with the room behind its end.
type stretch struct{ from, to uintptr }

func stretchOf[T any](l []T) stretch {
	if cap(l) == 0 {
		return stretch{}
	}
	var one T
	from := uintptr(unsafe.Pointer(unsafe.SliceData(l)))
	return stretch{from, from + uintptr(cap(l))*unsafe.Sizeof(one)}
}

// memory is where all lists of statements lie.
func memory(l []tree.Node) []stretch {
	all := []stretch{stretchOf(l)}
	for _, n := range l {
		all = append(all, stretchOf(n.Words), stretchOf(n.Pos))
		all = append(all, memory(n.Kids)...)
	}
	return slices.DeleteFunc(all, func(s stretch) bool { return s.from == s.to })
}

// apart looks whether no two of the lists of some statements share any memory.
func apart(t *testing.T, lists ...[]tree.Node) {
	t.Helper()
	var all []stretch
	for _, l := range lists {
		all = append(all, memory(l)...)
	}
	slices.SortFunc(all, func(a, b stretch) int {
		if a.from < b.from {
			return -1
		}
		return 1
	})
	for i := range len(all) - 1 {
		if all[i].to > all[i+1].from {
			t.Fatal("shared")
		}
	}
	if len(all) == 0 {
		t.Error("no lists")
	}
}

// scribble writes over all that statements hold, with the room behind the ends.
func scribble(l []tree.Node) {
	for _, n := range l {
		scribble(n.Kids)
		for i := range n.Words[:cap(n.Words)] {
			n.Words[:cap(n.Words)][i] = "scribbled"
		}
		for i := range n.Pos[:cap(n.Pos)] {
			n.Pos[:cap(n.Pos)][i] = at(-1, -1)
		}
	}
	for i := range l[:cap(l)] {
		l[:cap(l)][i] = leaf("scribbled too")
	}
}

// roomy is statements with room behind all ends, and something in it.
func roomy(l []tree.Node) []tree.Node {
	own := make([]tree.Node, 0, len(l)+2)
	for _, n := range l {
		n.Words = append(slices.Clone(n.Words), "b", "a")[:len(n.Words)]
		n.Pos = append(slices.Clone(n.Pos), at(7, 7), at(8, 8))[:len(n.Pos)]
		n.Kids = roomy(n.Kids)
		own = append(own, n)
	}
	return append(own, leaf("a"), block("b", leaf("a")))[:len(l)]
}

// whole is all that is in statements, the room behind the ends too.
func whole(l []tree.Node) []tree.Node {
	var all []tree.Node
	for _, n := range l[:cap(l)] {
		n.Words, n.Pos, n.Kids = slices.Clone(n.Words[:cap(n.Words)]), slices.Clone(n.Pos[:cap(n.Pos)]), whole(n.Kids)
		all = append(all, n)
	}
	return all
}

const many = "groups { g { a 1; <*> { c { d; } } e { f; } } h { b { g 1; } } } apply-groups g; b { x [ y z ]; apply-groups h; } b { w { } } i { e; } i { apply-groups g h; } k { l; }"

// R3: what is answered is new memory, and what is handed in stays as it was, and is not kept.
func TestOwnMemory(t *testing.T) {
	calls := map[string]func(l []tree.Node) []tree.Node{
		"Merge": tree.Merge,
		"Inherit": func(l []tree.Node) []tree.Node {
			got, _, e := tree.Inherit(l)
			if e != api.OK {
				t.Error(e)
			}
			return got
		},
		"Find": func(l []tree.Node) []tree.Node {
			got, is := tree.Find(l, "groups")
			if !is {
				t.Error("not found")
			}
			return got
		},
		"Parse": func([]tree.Node) []tree.Node { return made(t, many) },
	}
	for name, call := range calls {
		want := call(made(t, many))
		l := roomy(made(t, many))
		was := whole(l)
		first, second := call(l), call(l)
		if !alike(whole(l), was) || !alike(first, want) || !alike(second, want) {
			t.Error(name, "changed, or read behind an end")
		}
		apart(t, l, first, second)
		scribble(first)
		if !alike(whole(l), was) || !alike(second, want) || !alike(call(l), want) {
			t.Error(name, "seen elsewhere")
		}
		scribble(l)
		if !alike(second, want) {
			t.Error(name, "kept")
		}
	}
	words := []string{"groups", "x"}
	if _, is := tree.Find(made(t, many), words[:1]...); !is || words[1] != "x" || words[0] != "groups" {
		t.Error(words)
	}
}

// R3: Print, Same and Find read nothing behind an end, and change nothing.
func TestReadOnly(t *testing.T) {
	plain := made(t, many)
	want, _ := tree.Print(plain)
	l := roomy(plain)
	was := whole(l)
	if got, e := tree.Print(l); got != want || e != api.OK {
		t.Error(got, e)
	}
	if !tree.Same(l, plain) || !tree.Same(plain, l) {
		t.Error("not the same")
	}
	if !alike(whole(l), was) {
		t.Error("changed")
	}
}

// R3: no text that is answered keeps the one that was handed in.
func TestTextsAreNotKept(t *testing.T) {
	room := []byte(many)
	l, _, _ := tree.Parse(unsafe.String(&room[0], len(room)))
	for i := range room {
		room[i] = '#'
	}
	if !alike(l, made(t, many)) {
		t.Error(shown(l))
	}
}

// anyNodes is statements of any kind.
func anyNodes(r *rand.Rand, deep int) []tree.Node {
	var l []tree.Node
	for range r.Intn(5) {
		n := tree.Node{Block: r.Intn(2) == 0}
		for range r.Intn(3) {
			n.Words = append(n.Words, []string{"", "a", "groups", "apply-groups", "<*>", "\xff\"", "1:a"}[r.Intn(7)])
		}
		for range r.Intn(3) {
			n.Pos = append(n.Pos, at(r.Int()-r.Int(), r.Intn(9)))
		}
		if deep > 0 && r.Intn(2) == 0 {
			n.Kids = anyNodes(r, deep-1)
		}
		l = append(l, n)
	}
	return l
}

// R1, R2, R4: each call answers, whatever it is handed, and the same again.
func TestAnything(t *testing.T) {
	r := rand.New(rand.NewSource(1))
	answered := 0
	for range 20000 {
		l := anyNodes(r, 4)
		was := twin(l)
		if m := tree.Merge(l); !alike(m, plainMerge(l)) || !alike(tree.Merge(m), m) {
			t.Fatal(shown(l), shown(m))
		}
		got, p, e := tree.Inherit(l)
		if again, q, err := tree.Inherit(l); !alike(again, got) || q != p || err != e {
			t.Fatal(shown(l), shown(got), shown(again))
		}
		switch {
		case e == api.OK:
			answered++
			if again, q, err := tree.Inherit(got); p != (api.Pos{}) || !alike(again, got) || q != p || err != e {
				t.Fatal(shown(l), shown(got), shown(again))
			}
		case e != api.ErrWord && e != api.ErrRef, len(got) > 0:
			t.Fatal(shown(l), got, e)
		}
		if s, e := tree.Print(l); (e == api.OK) != (s != "" || len(l) == 0) || e != api.OK && e != api.ErrArg {
			t.Fatal(shown(l), s, e)
		}
		for _, words := range [][]string{nil, {""}, {"a"}, {"groups"}, {"<*>", "a"}} {
			kids, is := tree.Find(l, words...)
			at := slices.IndexFunc(l, func(n tree.Node) bool { return n.Block && slices.Equal(n.Words, words) })
			if is != (at >= 0) || is && !alike(kids, l[at].Kids) || !is && len(kids) > 0 {
				t.Fatal(shown(l), words, kids, is)
			}
		}
		if !alike(l, was) || !tree.Same(l, was) {
			t.Fatal("changed", shown(l), shown(was))
		}
	}
	if answered < 5000 {
		t.Error("few were inherited:", answered)
	}
}

// R1: as deep as parts may stand in one another.
func TestVeryDeep(t *testing.T) {
	const deep = 1<<16 - 8
	l := []tree.Node{block("groups", block("g", nest(deep, leaf("b"))...)), leaf("apply-groups g"), block("a")}
	got, _, e := tree.Inherit(l)
	if want := nest(deep, leaf("b")); e != api.OK || !tree.Same(got, want) || tree.Same(got, nest(deep, leaf("c"))) {
		t.Error(len(got), e)
	}
	if !tree.Same(tree.Merge(l), l) {
		t.Error("not merged")
	}
	if kids, is := tree.Find(got, "a"); !is || !tree.Same(kids, got[0].Kids) {
		t.Error("not found")
	}
	if s, e := tree.Print(got); s != "" || e != api.ErrArg {
		t.Error(len(s), e)
	}
	if _, p, e := tree.Parse(strings.Repeat("a{", api.MaxText/2)); p != at(1, 2*tree.MaxDeep+2) || e != api.ErrDeep {
		t.Error(p, e)
	}
}

// R2: calls do not see one another, at one time either.
func TestAtOneTime(t *testing.T) {
	l := made(t, many)
	want, _, _ := tree.Inherit(l)
	merged, printed := tree.Merge(l), shown(want)
	var group sync.WaitGroup
	for range 8 {
		group.Go(func() {
			for range 200 {
				if got, _, e := tree.Inherit(l); e != api.OK || !alike(got, want) || shown(got) != printed {
					t.Error(shown(got), e)
				}
				if got := tree.Merge(l); !alike(got, merged) {
					t.Error(shown(got))
				}
				if got, _, e := tree.Parse(many); e != api.OK || !alike(got, l) {
					t.Error(shown(got), e)
				}
			}
		})
	}
	group.Wait()
}
