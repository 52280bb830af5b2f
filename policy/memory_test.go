package policy_test

import (
	"math"
	"math/rand"
	"reflect"
	"slices"
	"sync"
	"testing"

	"waymark/api"
	"waymark/policy"
)

// spoil writes over a list, and over the room behind its end.
func spoil(list []uint32) {
	list = list[:cap(list)]
	for i := range list {
		list[i] = 77
	}
}

// roomy is a list with other numbers in the room behind its end.
func roomy(list ...uint32) []uint32 {
	return append(slices.Clone(list), 901, 902, 903, 904, 905)[:len(list)]
}

// room is what stands behind a list's end.
func room(list []uint32) []uint32 { return list[len(list):cap(list)][:5] }

var rest = []uint32{901, 902, 903, 904, 905}

// kinds are policies that set nothing, all lists, or one of them, or add.
func kinds() [][]api.Clause {
	both := with(clause(1, api.Next), func(c *api.Clause) { c.SetComm, c.Prepend = roomy(5, 4, 4), roomy(6, 7) })
	add := with(clause(2, api.Next), func(c *api.Clause) { c.SetComm, c.Add, c.Prepend = roomy(9), true, roomy(8) })
	none := clause(3, api.Next)
	path := with(clause(4, api.Next), func(c *api.Clause) { c.Prepend = roomy(2) })
	comm := with(clause(5, api.Next), func(c *api.Clause) { c.SetComm = roomy(1, 2) })
	return [][]api.Clause{nil, {none}, {both}, {add}, {path}, {comm}, {none, none}, {both, none, add}, {path, path, none}, {comm, add, comm}, {both, {Seq: 9, Tag: -1, Metric: -1, Through: -1}}}
}

// R3: what is handed in is not changed, nor the room behind the ends, and not kept; what is handed out is the caller's own.
func TestMemory(t *testing.T) {
	for i, clauses := range kinds() {
		for _, lists := range [][2][]uint32{{{3, 1, 3}, {2, 2}}, {{3, 1}, nil}, {nil, {2}}, {nil, nil}} {
			d := listed(clauses...)
			d.Policies[1].Default = true
			s := api.Subject{Prefix: ten(16), Comm: roomy(lists[0]...), Path: roomy(lists[1]...)}
			answer := func() [][]uint32 {
				var all [][]uint32
				take := func(s api.Subject) { all = append(all, s.Comm, s.Path) }
				made, _, _ := policy.Apply(d, "m", s)
				take(made)
				marks, _, _ := policy.Run(d, "m", s)
				for _, m := range marks {
					take(m.Subject)
				}
				made, _, _ = policy.Apply(d, "", s)
				take(made)
				for _, name := range []string{"m", ""} {
					many, _ := policy.All(d, name, []api.Subject{s, s})
					for _, s := range many {
						take(s)
					}
				}
				for _, c := range clauses {
					take(policy.Set(c, s))
				}
				return all
			}
			want := answer()
			for k := range want {
				want[k] = slices.Clone(want[k])
			}
			// Each one written over by itself: all others must stay.
			for k := range want {
				got := answer()
				spoil(got[k])
				for j := range got {
					if j != k && !slices.Equal(got[j], want[j]) {
						t.Fatalf("policy %d: list %d is changed by list %d", i, j, k)
					}
				}
			}
			if got := answer(); !slices.EqualFunc(got, want, slices.Equal) {
				t.Errorf("policy %d: kept: %v, not %v", i, got, want)
			}
			if !slices.Equal(s.Comm, lists[0]) || !slices.Equal(s.Path, lists[1]) || !slices.Equal(room(s.Comm), rest) || !slices.Equal(room(s.Path), rest) {
				t.Errorf("policy %d: changed: %v", i, s)
			}
			fresh := kinds()[i]
			for k, c := range clauses {
				if !reflect.DeepEqual(c, fresh[k]) || len(c.SetComm) > 0 && !slices.Equal(room(c.SetComm), rest) || len(c.Prepend) > 0 && !slices.Equal(room(c.Prepend), rest) {
					t.Errorf("policy %d: changed: %+v", i, c)
				}
			}
		}
	}
}

// R3: what stands behind the ends of the lists is not read.
func TestBehindTheEnds(t *testing.T) {
	s := api.Subject{Path: []uint32{1, 65001}[:1], Comm: []uint32{1, 2}[:1]}
	d := listed()
	for _, ask := range []func(c *api.Clause){func(c *api.Clause) { c.Through = 65001 }, func(c *api.Clause) { c.Communities = "c" }} {
		if policy.Fits(d, with(clause(1, api.Permit), ask), s) {
			t.Error("fits by what stands behind the end")
		}
	}
	clauses := []api.Clause{clause(1, api.Next), clause(2, api.Deny)}
	d = listed(clauses[:1]...)
	d.Policies[1].Clauses = clauses[:1]
	d.Policies[1].Default = true
	if _, is, e := policy.Apply(d, "m", s); !is || e != api.OK {
		t.Error(is, e)
	}
	d.Policies = d.Policies[:1]
	if _, _, e := policy.Apply(d, "m", s); e != api.ErrRef {
		t.Error(e)
	}
	d = listed()
	d.Prefixes, d.Communities = d.Prefixes[:1], d.Communities[:1]
	if policy.Fits(d, with(clause(1, api.Permit), func(c *api.Clause) { c.Prefixes = "p" }), s) || policy.Fits(d, with(clause(1, api.Permit), func(c *api.Clause) { c.Communities = "any" }), s) {
		t.Error("lists behind the end")
	}
	if all, e := policy.All(d, "", []api.Subject{s, s}[:1]); len(all) != 1 || e != api.OK {
		t.Error(all, e)
	}
}

// R1: numbers of all sizes.
func TestAnything(t *testing.T) {
	r := rand.New(rand.NewSource(1))
	wild := func() int { return one(r, math.MinInt, -2, -1, 0, 1, math.MaxUint32, 1<<32, math.MaxInt) }
	for range 20000 {
		var clauses []api.Clause
		for range r.Intn(5) {
			clauses = append(clauses, api.Clause{
				Seq: wild(), Action: uint8(r.Intn(4)), Prefixes: one(r, "", "p", "gone", "\xff"), Communities: one(r, "", "", "c"), Tag: one(r, -1, wild()), Metric: one(r, -1, wild()), Through: one(r, -1, wild()),
				SetMetric: wild(), SetPref: wild(), SetTag: wild(), SetComm: some(r, 2, 0, math.MaxUint32), Add: r.Intn(2) == 0, Prepend: some(r, 2, 0, math.MaxUint32), SetHop: api.Addr(r.Uint32()), Jump: wild(),
			})
		}
		d := listed(clauses...)
		s := api.Subject{Prefix: api.Prefix{Addr: api.Addr(r.Uint32()), Bits: wild()}, Metric: wild(), Tag: wild(), Pref: wild(), Path: some(r, 3, 0, math.MaxUint32), Comm: some(r, 3, 0, math.MaxUint32)}
		check(t, d, s)
		if t.Failed() {
			return
		}
	}
}

// R1: many clauses, long lists.
func TestMuch(t *testing.T) {
	const many = 2000
	var clauses []api.Clause
	for i := range many {
		clauses = append(clauses, with(clause(i, api.Next), func(c *api.Clause) {
			c.Prepend, c.SetComm, c.Add, c.Tag, c.SetTag = []uint32{uint32(i)}, []uint32{uint32(many - i)}, true, i, i+1
		}))
	}
	d := listed(clauses...)
	d.Policies[1].Default = true
	made, is, e := policy.Apply(d, "m", api.Subject{Path: make([]uint32, 1<<16)})
	if !is || e != api.OK || len(made.Path) != many+1<<16 || made.Path[0] != many-1 || len(made.Comm) != many || made.Comm[0] != 1 || made.Tag != many {
		t.Error(is, e, len(made.Path), len(made.Comm), made.Tag)
	}
}

// R2: what is answered hangs on the arguments alone, also by many at one time.
func TestAtOneTime(t *testing.T) {
	d := listed(chapter()...)
	s := api.Subject{Prefix: ten(16), Pref: 100, Path: roomy(1, 2), Comm: roomy(3, 1)}
	want, _, _ := policy.Apply(d, "m", s)
	var group sync.WaitGroup
	for range 8 {
		group.Go(func() {
			for range 500 {
				made, is, e := policy.Apply(d, "m", s)
				marks, _, _ := policy.Run(d, "m", s)
				all, _ := policy.All(d, "m", []api.Subject{s, s})
				if !is || e != api.OK || !plainSame(made, want) || len(marks) != 3 || len(all) != 2 {
					t.Error(made, is, e)
				}
				spoil(made.Path)
				spoil(all[0].Comm)
				spoil(marks[0].Subject.Path)
			}
		})
	}
	group.Wait()
}
