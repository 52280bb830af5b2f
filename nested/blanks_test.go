package nested_test

import (
	"math/rand"
	"strings"
	"testing"

	"waymark/api"
	"waymark/lex"
	"waymark/nested"
	"waymark/tree"
)

// spaced is a text of the same words and signs, with other blanks and comments between them.
func spaced(r *rand.Rand, s string) string {
	tokens, _, _ := lex.Tokens(s)
	var b strings.Builder
	for _, x := range tokens {
		for range r.Intn(3) {
			b.WriteString(pick(r, " ", "\n", "  \n ", "/* system { host-name x; } */", "# foo } \"\n", "/**/", "#\n"))
		}
		text := x.Text
		if x.Kind == lex.Plain && (text == "" || strings.ContainsAny(text, " {};[]#") || r.Intn(10) == 0) {
			text = `"` + text + `"`
		}
		b.WriteString(" " + text)
	}
	return b.String() + pick(r, "", " ", "\n", "# end", "/* end */")
}

// wordAt is the word at a place of a text.
func wordAt(s string, pos api.Pos) string {
	tokens, _, _ := lex.Tokens(s)
	for _, x := range tokens {
		if x.Pos == pos {
			return x.Text
		}
	}
	return ""
}

// P15.5: blanks and comments between words and signs change no device, and what is refused only by its place.
func TestBlanksAndComments(t *testing.T) {
	r := rand.New(rand.NewSource(5))
	texts := []string{whole, "", "system { host-name; }", "foo", "interfaces { e0 { metric 0; } }"}
	for range 300 {
		texts = append(texts, written(anyText(r, 5, 10)))
	}
	for _, s := range texts {
		d, pos, e := nested.Parse(s)
		for range 3 {
			other := spaced(r, s)
			d2, pos2, e2 := nested.Parse(other)
			if e2 != e || !alike(d, d2) || (pos.Line == 0) != (pos2.Line == 0) || wordAt(s, pos) != wordAt(other, pos2) {
				t.Fatalf("Parse(%q): %v %v %v, not %v %v %v", other, d2, pos2, e2, d, pos, e)
			}
		}
	}
	// As close as may be.
	reads(t, `system{host-name a;}interfaces{e0{filter input f;}"e1"{}}`, named(func(d *api.Device) {
		d.Ifaces = []api.Iface{{Name: "e0", In: "f", Area: -1, Cost: 1}, {Name: "e1", Area: -1, Cost: 1}}
	}))
}

// P15.5: what groups pass on says what it would say if it stood there.
func TestGroupsKnown(t *testing.T) {
	for _, x := range []struct{ groups, plain string }{
		{"groups { g { system { host-name a; } } } apply-groups g;", "system { host-name a; }"},
		{"groups { g { interfaces { <*> { metric 7; area 0; passive; } } } } apply-groups g; interfaces { e0 { metric 5; } e1 { } } " + head, "interfaces { e0 { metric 5; area 0; passive; } e1 { metric 7; area 0; passive; } } " + head},
		{"groups { g { <*> { metric 7; } } } interfaces { apply-groups g; e0 { } e1 { metric 1; } } " + head, "interfaces { e0 { metric 7; } e1 { metric 1; } } " + head},
		{"groups { g { nat outside; filter input f; } } interfaces { e0 { apply-groups g; nat inside; } e1 { apply-groups g; } } " + head, "interfaces { e0 { nat inside; filter input f; } e1 { nat outside; filter input f; } } " + head},
		{"groups { none { then discard; } } firewall { filter f { term t { apply-groups none; } term u { then accept; apply-groups none; } } } " + head, "firewall { filter f { term t { then discard; } term u { then accept; } } } " + head},
		{"groups { g { <*> { apply; } } } " + head, head},
		{"groups { g { term z { then { reject; } } } h { then { tag 5; } } } policy { statement s { apply-groups g; term a { apply-groups h; } } } " + head, "policy { statement s { term a { then { tag 5; } } term z { then { reject; } } } } " + head},
		{"groups { g { protocols { bgp <*> { local-as 5; neighbor 1.1.1.1 { peer-as 6; } } } } } apply-groups g; protocols { bgp { } bgp red { local-as 7; } } " + head, "protocols { bgp { } bgp red { local-as 7; neighbor 1.1.1.1 { peer-as 6; } } } " + head},
		{"groups { a { routes { route 10.0.0.0/8 discard; } } b { routes { route 10.0.0.0/8 next-hop 1.1.1.1; route 11.0.0.0/8 discard; } } } apply-groups a b; " + head, "routes { route 10.0.0.0/8 discard; route 10.0.0.0/8 next-hop 1.1.1.1; route 11.0.0.0/8 discard; } " + head},
		{"groups { g { red; blue; } } instances { apply-groups g; green; red; } " + head, "instances { green; red; blue; } " + head},
	} {
		want, _, e := nested.Parse(x.plain)
		if e != api.OK {
			t.Fatal(x.plain, e)
		}
		reads(t, x.groups, want)
	}
}

// P15.5: of any text, any of whose statements stand in groups, at the ends of the blocks to which these pass them on.
func TestGroupsAny(t *testing.T) {
	r := rand.New(rand.NewSource(55))
	passed := 0
	for range 1500 {
		l := anyText(r, 5, 1000)
		want, _, e := nested.Read(l)
		if e != api.OK {
			continue
		}
		var groups []tree.Node
		grouped := moved(r, l, &groups)
		l, _, e = tree.Inherit(append(grouped, block("groups", groups...)))
		if e != api.OK || !tree.Same(l, tree.Merge(ungrouped(grouped, groups))) {
			// A leaf of the group found one that stands in its place.
			continue
		}
		passed += min(1, len(groups))
		s := written(append(grouped, block("groups", groups...)))
		if d, pos, e := nested.Parse(s); e != api.OK || !alike(d, want) {
			t.Fatalf("Parse(%q): %v %v %v, not %v", s, d, pos, e, want)
		}
	}
	if passed < 300 {
		t.Error("few were passed on:", passed)
	}
}

// moved are statements of which the last ones of some blocks stand in groups.
func moved(r *rand.Rand, l []tree.Node, groups *[]tree.Node) []tree.Node {
	var own []tree.Node
	for _, n := range l {
		if n.Block && len(n.Kids) > 0 && r.Intn(3) == 0 {
			at := r.Intn(len(n.Kids))
			g := block("g"+string(rune('a'+len(*groups))), n.Kids[at:]...)
			*groups = append(*groups, g)
			n.Kids = append(append([]tree.Node{}, n.Kids[:at]...), leaf("apply-groups "+g.Words[0]))
		} else if n.Block {
			n.Kids = moved(r, n.Kids, groups)
		}
		own = append(own, n)
	}
	return own
}

// ungrouped are statements in which what groups have stands where they are applied.
func ungrouped(l, groups []tree.Node) []tree.Node {
	var own []tree.Node
	for _, n := range l {
		if n.Words[0] == "apply-groups" {
			kids, _ := tree.Find(groups, n.Words[1])
			own = append(own, kids...)
			continue
		}
		n.Kids = ungrouped(n.Kids, groups)
		own = append(own, n)
	}
	return own
}
