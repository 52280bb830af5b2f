package rewrite_test

import (
	"fmt"
	"math/rand"
	"slices"
	"testing"

	"waymark/addr"
	"waymark/api"
	"waymark/filter"
	"waymark/header"
	"waymark/rel"
	"waymark/rewrite"
)

// P11.2: the chapter's example.
func TestSetsKnown(t *testing.T) {
	l, f := example()
	s := space(t)
	node := ok[int](t)
	host := func(field rel.Field, a api.Addr) int { return node(s.Prefix(field, api.Prefix{Addr: a, Bits: 32})) }
	lan := node(s.Prefix(rel.Src, ten))
	if n, e := rewrite.Preimage(s, l, f, false, host(rel.Src, 0x01020304)); n != lan || e != api.OK {
		t.Error(n, e)
	}
	if n, e := rewrite.Preimage(s, l, f, false, host(rel.Src, 0x09090909)); n != node(s.Not(lan)) || e != api.OK {
		t.Error(n, e)
	}
	if n, e := rewrite.Image(s, l, f, true, 1); n != host(rel.Dst, 0x05060708) || e != api.OK {
		t.Error(n, e)
	}
	if n, e := rewrite.Image(s, l, f, false, 1); n != node(s.Or(host(rel.Src, 0x01020304), host(rel.Src, 0x09090909))) || e != api.OK {
		t.Error(n, e)
	}
	if n, e := rewrite.Relation(s, l, f, true); n != node(s.Put(rel.Dst, 0x05060708)) || e != api.OK {
		t.Error(n, e)
	}
	one := node(rewrite.Relation(s, l[:1], f, false))
	leadsTo(t, s, one, api.Header{Src: 0x0B000001, Proto: 6}, api.Header{Src: 0x0B000001, Proto: 6})
	leadsTo(t, s, one, api.Header{Src: 0x0A000001, Proto: 6}, api.Header{Src: 0x01020304, Proto: 6})
}

// leadsTo looks whether a relation leads from a header to one other alone.
func leadsTo(t *testing.T, s *rel.Space, relation int, h, want api.Header) {
	t.Helper()
	node := ok[int](t)
	if to := node(s.Image(relation, node(s.Header(h)))); to != node(s.Header(want)) {
		t.Fatal(header.Text(h), "does not lead to", header.Text(want), "alone")
	}
}

// byBoxes looks at the headers of each box, whether what is told of them in sets is what is told of each (P11.2, P11.3), of which the rewrites make something of the set of a filter.
func byBoxes(t *testing.T, s *rel.Space, l []api.Rewrite, filters []api.Filter, dest bool, among api.Filter) {
	t.Helper()
	node, truth := ok[int](t), ok[bool](t)
	set := node(filter.Set(s, among))
	in := func(h api.Header) bool { return truth(filter.Permits(among, h)) }
	relation := node(rewrite.Relation(s, l, filters, dest))
	image := node(rewrite.Image(s, l, filters, dest, set))
	preimage := node(rewrite.Preimage(s, l, filters, dest, set))
	if image != node(s.Image(relation, set)) || preimage != node(s.Preimage(relation, set)) {
		t.Fatal("not the relation's", l, filters, dest, among)
	}
	g := cut(l, append(slices.Clone(filters), among)...)
	come, before := map[box]bool{}, map[box]bool{}
	for i, b := range g.boxes() {
		for _, h := range g.ends(b) {
			want := plainApply(l, filters, dest, h)
			if in(h) {
				come[g.of(want)] = true
			}
			before[b] = in(want)
			if truth(s.Has(preimage, h)) != in(want) {
				t.Fatal("Preimage", header.Text(h), l, filters, dest, among)
			}
			turned := ok[api.Header](t)(header.With(want, i%header.Width, !truth(header.Bit(want, i%header.Width))))
			for _, to := range []api.Header{want, h, turned, with(h, dest, 0x0A000001), with(want, !dest, 0x0A000001)} {
				if truth(s.Leads(relation, h, to)) != (to == want) {
					t.Fatal(header.Text(h), "to", header.Text(to), l, filters, dest)
				}
			}
		}
		if i%97 == 0 {
			h := g.ends(b)[i%2]
			applies(t, l, filters, dest, h, plainFirst(l, filters, dest, h))
			leadsTo(t, s, relation, h, plainApply(l, filters, dest, h))
		}
	}
	for _, b := range g.boxes() {
		for _, h := range g.ends(b) {
			if truth(s.Has(image, h)) != come[b] {
				t.Fatal("Image", header.Text(h), l, filters, dest, among)
			}
		}
	}
	if c := ok[api.Count](t)(s.Count(image)); c != g.count(func(b box) bool { return come[b] }) {
		t.Fatal("Image", c, l, filters, dest, among)
	}
	if c := ok[api.Count](t)(s.Count(preimage)); c != g.count(func(b box) bool { return before[b] }) {
		t.Fatal("Preimage", c, l, filters, dest, among)
	}
}

// P11.2, P11.3: lists of both kinds, by the headers of all boxes.
func TestSetsByHeaders(t *testing.T) {
	r := rand.New(rand.NewSource(11))
	s := space(t)
	for i := range 60 {
		l, filters := anyRewrites(r, 7)
		byBoxes(t, s, l, filters, i%2 == 0, anyFilter(r, ""))
	}
	l, f := example()
	for _, dest := range kinds {
		byBoxes(t, s, l, f, dest, api.Filter{Rules: []api.Rule{from(true, ten)}})
		byBoxes(t, s, l, f, dest, api.Filter{Rules: []api.Rule{from(false, ten), anything(true)}})
	}
}

// P11.2, P11.3: many lists: what is made of sets is what their relation makes of them; a header of the set is in the Preimage of its Image.
func TestSetsMany(t *testing.T) {
	r := rand.New(rand.NewSource(11))
	s := space(t)
	node := ok[int](t)
	moved := 0
	for range 300 {
		l, filters := anyRewrites(r, 9)
		for _, dest := range kinds {
			relation := node(rewrite.Relation(s, l, filters, dest))
			for _, set := range []int{0, 1, node(filter.Set(s, anyFilter(r, ""))), node(s.Header(anyHeader(r)))} {
				image := node(rewrite.Image(s, l, filters, dest, set))
				preimage := node(rewrite.Preimage(s, l, filters, dest, set))
				if image != node(s.Image(relation, set)) || preimage != node(s.Preimage(relation, set)) {
					t.Fatal("not the relation's", l, filters, dest)
				}
				back := node(rewrite.Preimage(s, l, filters, dest, image))
				if node(s.Less(set, back)) != 0 {
					t.Fatal("not back", l, filters, dest)
				}
				if image != set {
					moved++
				}
			}
			h := anyHeader(r)
			leadsTo(t, s, relation, h, plainApply(l, filters, dest, h))
			if all := node(s.Preimage(relation, 1)); all != 1 {
				t.Fatal("some lead nowhere", l, filters, dest)
			}
		}
	}
	if moved < 300 {
		t.Error("only", moved)
	}
}

// P11.4: all other fields stay: what is asked of them alone has the same Image and Preimage, if all are rewritten or none is.
func TestWhatStays(t *testing.T) {
	s := space(t)
	node := ok[int](t)
	for _, dest := range kinds {
		field, other := rel.Src, rel.Dst
		if dest {
			field, other = other, field
		}
		l := []api.Rewrite{{Dest: !dest, To: 3}, {Dest: dest, To: 0x0A000007}, {Dest: dest, To: 9}}
		to := node(s.Prefix(field, api.Prefix{Addr: 0x0A000007, Bits: 32}))
		for _, set := range []int{
			1, node(s.Prefix(other, ten)), node(s.Numbers(rel.Proto, []api.Span{{Lo: 6, Hi: 17}})),
			node(s.Numbers(rel.SrcPort, []api.Span{{Lo: 1024, Hi: 65535}})), node(s.Numbers(rel.DstPort, []api.Span{{Lo: 80, Hi: 80}})),
		} {
			if n := node(rewrite.Image(s, l, nil, dest, set)); n != node(s.And(set, to)) {
				t.Error("Image", dest, n)
			}
			if n := node(rewrite.Preimage(s, l, nil, dest, set)); n != set {
				t.Error("Preimage", dest, n)
			}
		}
		// What has another address there comes of none.
		if n := node(rewrite.Preimage(s, l, nil, dest, node(s.Not(to)))); n != 0 {
			t.Error(n)
		}
	}
}

// P11.4: without rewrites of the kind, and with such that apply to none, all stays.
func TestAllStays(t *testing.T) {
	s := space(t)
	node := ok[int](t)
	keep := node(s.Keep())
	_, f := example()
	f = append(f, api.Filter{Name: "none"}, api.Filter{Name: "deny", Rules: []api.Rule{anything(false), anything(true)}})
	for _, dest := range kinds {
		for _, l := range [][]api.Rewrite{
			nil, {}, {{Dest: !dest, To: 1}}, {{Dest: !dest, Filter: "f", To: 1}, {Dest: !dest, Filter: "g", To: 1}},
			{{Dest: dest, Filter: "none", To: 1}}, {{Dest: dest, Filter: "deny", To: 1}, {Dest: !dest, To: 2}, {Dest: dest, Filter: "none", To: 1}},
		} {
			if n := node(rewrite.Relation(s, l, f, dest)); n != keep {
				t.Error("Relation", l, dest, n)
			}
			for _, set := range []int{0, 1, node(s.Prefix(rel.Src, ten)), node(s.Header(greatest))} {
				if n := node(rewrite.Image(s, l, f, dest, set)); n != set {
					t.Error("Image", l, dest, n)
				}
				if n := node(rewrite.Preimage(s, l, f, dest, set)); n != set {
					t.Error("Preimage", l, dest, n)
				}
			}
		}
	}
}

// P11.5: with one more behind another one of its kind with the same filter, or with the kinds apart, all is the same.
func TestSetsSame(t *testing.T) {
	r := rand.New(rand.NewSource(11))
	s := space(t)
	node := ok[int](t)
	unlike := 0
	for range 200 {
		l, filters := anyRewrites(r, 6)
		if len(l) == 0 {
			continue
		}
		at := r.Intn(len(l))
		behind := l[at]
		behind.To = 0x0A000007
		longer := slices.Insert(slices.Clone(l), at+1+r.Intn(len(l)-at), behind)
		ahead := slices.Insert(slices.Clone(l), 0, behind)
		set := node(filter.Set(s, anyFilter(r, "")))
		for _, dest := range kinds {
			all := func(l []api.Rewrite) [3]int {
				return [3]int{node(rewrite.Relation(s, l, filters, dest)), node(rewrite.Image(s, l, filters, dest, set)), node(rewrite.Preimage(s, l, filters, dest, set))}
			}
			want := all(l)
			for _, other := range [][]api.Rewrite{longer, apart(l, dest), apart(l, !dest), apart(longer, true)} {
				if got := all(other); got != want {
					t.Fatal(l, other, filters, dest)
				}
			}
			got := all(ahead)
			if dest != behind.Dest && got != want {
				t.Fatal(l, ahead, filters, dest)
			}
			if got != want {
				unlike++
			}
		}
	}
	if unlike < 30 {
		t.Error("only", unlike)
	}
}

// P11.2, P11.3: as many rewrites as may be, each for one address of its own.
func TestSetsMost(t *testing.T) {
	r := rand.New(rand.NewSource(11))
	for _, dest := range kinds {
		var l []api.Rewrite
		var filters []api.Filter
		for i := range api.MaxRules {
			p, _ := addr.Subnet(api.Addr(r.Uint32()), 32)
			name := fmt.Sprint("f", i)
			filters = append(filters, api.Filter{Name: name, Rules: []api.Rule{from(true, p)}})
			l = append(l, api.Rewrite{Dest: dest, Filter: name, To: api.Addr(r.Uint32())})
		}
		s := space(t)
		node := ok[int](t)
		relation := node(rewrite.Relation(s, l, filters, dest))
		image := node(rewrite.Image(s, l, filters, dest, 1))
		if image != node(s.Image(relation, 1)) {
			t.Error("Image", dest)
		}
		for i, f := range filters {
			h := anyHeader(r)
			h.Src = f.Rules[0].Src.Addr
			leadsTo(t, s, relation, h, with(h, dest, l[i].To))
			h.Src++
			leadsTo(t, s, relation, h, plainApply(l, filters, dest, h))
		}
		set := node(s.Numbers(rel.Src, []api.Span{{Lo: 0, Hi: 1 << 31}}))
		preimage := node(rewrite.Preimage(s, l, filters, dest, set))
		if preimage != node(s.Preimage(relation, set)) {
			t.Error("Preimage", dest)
		}
	}
}
