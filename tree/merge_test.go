package tree_test

import (
	"math/rand"
	"slices"
	"strings"
	"testing"

	"waymark/api"
	"waymark/tree"
)

// P14.1: merged statements.
func TestMerge(t *testing.T) {
	for s, want := range map[string]string{
		"":                                       "",
		"a { b; } a { c; } a { b; }":             "a { b; c; } ",
		"a; a;":                                  "a; ",
		"a; b; a; c; b;":                         "a; b; c; ",
		"a; a { } a; a { b; }":                   "a; a { b; } ",
		"a { } a;":                               "a { } a; ",
		"a b { c; } a { c; } a b { d;}":          "a b { c; d; } a { c; } ",
		"a { b { c; } } d; a { e; b { c; f; } }": "a { b { c; f; } e; } d; ",
		"a { b; b; b { } b { c; } }":             "a { b; b { c; } } ",
		"a { x { c; } } a { y { c; } } a { x { d; } }": "a { x { c; d; } y { c; } } ",
		"m 1; m 2; m 1;": "m 1; m 2; ",
		"m [ 1 2 1 ];":   "m 1; m 2; ",
		"a { b { c { d; } } } a { b { c { d; e; } f; } }": "a { b { c { d; e; } f; } } ",
		"groups { g { a; } } groups { g { b; } h { } }":   "groups { g { a; b; } h { } } ",
		"apply-groups g; a { } apply-groups g h;":         "apply-groups g; a { } apply-groups g h; ",
		"apply-groups { a; } apply-groups { b; }":         "apply-groups { a; b; } ",
		"b; a; c; a; b;": "b; a; c; ",
	} {
		if got := shown(tree.Merge(made(t, s))); got != want {
			t.Errorf("%s: %s, not %s", s, got, want)
		}
	}
}

// P14.1: words are the same just if each one is, wherever one ends and the next begins.
func TestMergeWords(t *testing.T) {
	lists := [][]string{nil, {""}, {"", ""}, {"a"}, {"a", ""}, {"", "a"}, {"aa"}, {"a", "a"}, {"a a"}, {"a", "b"}, {"ab"}, {"1:a"}, {"a", "1:b"}, {"a1:b"}, {"1", ":a"}, {"2:ab"}, {"0:"}, {"\x00"}, {"a\x00b"}, {"\xff", "\""}, {"a;"}, {"a "}, {"1a1a1a1a2bc"}, {"1", "a", "a", "a", "a", "bc"}, {"1:a:a"}, {"a:"}, {"a:a"}}
	var l, want []tree.Node
	for range 2 {
		for i, words := range lists {
			l = append(l, tree.Node{Words: words, Block: true, Kids: []tree.Node{leaf("b"), leaf("b")}}, tree.Node{Words: words, Pos: []api.Pos{{Line: i, Col: len(l)}}})
		}
	}
	for i := range 2 * len(lists) {
		n := l[i]
		if n.Block {
			n.Kids = []tree.Node{leaf("b")}
		}
		want = append(want, n)
	}
	if got := tree.Merge(l); !alike(got, want) {
		t.Error(got, want)
	}
}

// P14.1: words and places stay as they are, whatever nodes there are.
func TestMergeAnyNodes(t *testing.T) {
	odd := []tree.Node{
		{Words: []string{"a"}, Pos: []api.Pos{{Line: -1}, {Col: 7}}, Kids: []tree.Node{leaf("b"), leaf("b"), leaf("c")}},
		{Pos: []api.Pos{{Line: 3}}, Block: true},
		{Words: []string{"a"}, Block: true, Kids: []tree.Node{{}, {}, {Block: true}}},
		{Words: []string{"a"}, Pos: []api.Pos{{Line: 9}}, Kids: []tree.Node{leaf("d")}},
		{Block: true, Kids: []tree.Node{leaf("e")}},
	}
	want := []tree.Node{
		{Words: []string{"a"}, Pos: []api.Pos{{Line: -1}, {Col: 7}}, Kids: []tree.Node{leaf("b"), leaf("c")}},
		{Pos: []api.Pos{{Line: 3}}, Block: true, Kids: []tree.Node{leaf("e")}},
		{Words: []string{"a"}, Block: true, Kids: []tree.Node{{}, {Block: true}}},
	}
	if got := tree.Merge(odd); !alike(got, want) {
		t.Error(got)
	}
}

// leavesOf is the leaves of statements, each with the words on the way to it.
func leavesOf(l []tree.Node) []string {
	var all []string
	var within func(l []tree.Node, way string)
	within = func(l []tree.Node, way string) {
		for _, n := range l {
			here := way + strings.Join(n.Words, " ")
			if n.Block {
				within(n.Kids, here+" > ")
			} else if !slices.Contains(all, here) {
				all = append(all, here)
			}
		}
	}
	within(l, "")
	slices.Sort(all)
	return all
}

// P14.1, P14.5: what is merged is merged once and for all, and has the leaves that there were.
func TestMerged(t *testing.T) {
	r := rand.New(rand.NewSource(5))
	fewer := 0
	for range 3000 {
		l := placed(some(r, 6, 3, "a", "b", "groups", "apply-groups"))
		m := tree.Merge(l)
		if want := plainMerge(l); !alike(m, want) {
			t.Fatalf("%s: %s, not %s", shown(l), shown(m), shown(want))
		}
		if again := tree.Merge(m); !alike(again, m) {
			t.Fatalf("%s: merged again: %s", shown(l), shown(again))
		}
		if !slices.Equal(leavesOf(l), leavesOf(m)) {
			t.Fatalf("%s: leaves of %s", shown(l), shown(m))
		}
		if !tree.Same(l, m) {
			fewer++
		}
	}
	if fewer < 1000 {
		t.Error("few were merged:", fewer)
	}
}

// P14.1: the same are statements of the same words, in the same order, wherever they stand.
func TestSame(t *testing.T) {
	different := [][]tree.Node{
		nil, {leaf("a")}, {leaf("b")}, {block("a")}, {leaf("a"), leaf("a")}, {leaf("a"), leaf("b")}, {leaf("b"), leaf("a")}, {leaf("a b")}, {{Words: []string{"a b"}}}, {{Words: []string{"a", ""}}}, {{}}, {{Block: true}},
		{block("a", leaf("b"))}, {block("a", leaf("c"))}, {block("a", block("b"))}, {block("a", leaf("b"), leaf("b"))}, {block("a", leaf("b")), leaf("b")}, {block("a"), leaf("b")}, {block("a"), block("a")},
		{block("a", block("b", leaf("c")))}, {block("a", block("b", leaf("d")))}, {block("a", block("b"), leaf("c"))}, {{Words: []string{"a"}, Kids: []tree.Node{leaf("b")}}}, {block("a", leaf("b"), leaf("c"))}, {block("a", leaf("c"), leaf("b"))},
	}
	for i, a := range different {
		for k, b := range different {
			if tree.Same(a, placed(twin(b))) != (i == k) || tree.Same(placed(twin(a)), b) != (i == k) {
				t.Error(shown(a), shown(b))
			}
		}
	}
	if !tree.Same(made(t, "a{b[c d];}"), made(t, "a {\n b c ;/**/b \"d\"; }")) {
		t.Error("not the same")
	}
	// Empty lists may be nil or not.
	if !tree.Same([]tree.Node{{Words: []string{}, Pos: []api.Pos{}, Kids: []tree.Node{}}}, []tree.Node{{}}) || !tree.Same([]tree.Node{}, nil) {
		t.Error("empty")
	}
}

// P14.3: what the first container of some words has.
func TestFind(t *testing.T) {
	l := made(t, "a; a b { x; } a { y; z { w; } } a { v; } a b c { u; } d { } \"\" { t; } \"a b\" { s; } e { f { r; } }")
	for _, x := range []struct {
		words []string
		want  string
		is    bool
	}{
		{[]string{"a"}, "y; z { w; } ", true}, {[]string{"a", "b"}, "x; ", true}, {[]string{"a", "b", "c"}, "u; ", true}, {[]string{"d"}, "", true}, {[]string{""}, "t; ", true}, {[]string{"a b"}, "s; ", true},
		{[]string{"b"}, "", false}, {[]string{"a", "c"}, "", false}, {[]string{"a", ""}, "", false}, {[]string{"a", "b", "c", "d"}, "", false}, {nil, "", false}, {[]string{"f"}, "", false}, {[]string{"z"}, "", false}, {[]string{"A"}, "", false},
	} {
		if got, is := tree.Find(l, x.words...); shown(got) != x.want || is != x.is || !is && len(got) > 0 {
			t.Error(x.words, shown(got), is)
		}
	}
	if kids, is := tree.Find(l, "a"); !is || !alike(kids, l[2].Kids) {
		t.Error("other places:", kids)
	}
	if _, is := tree.Find([]tree.Node{leaf("a")}, "a"); is {
		t.Error("a leaf is no container")
	}
	if kids, is := tree.Find([]tree.Node{{}, {Block: true, Kids: []tree.Node{leaf("a")}}}); !is || shown(kids) != "a; " {
		t.Error(kids, is)
	}
	if kids, is := tree.Find(nil, "a"); is || len(kids) > 0 {
		t.Error(kids, is)
	}
}
