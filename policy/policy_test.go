package policy_test

import (
	"math"
	"slices"
	"testing"

	"waymark/api"
	"waymark/policy"
)

// chapter are the clauses of the chapter's policy m.
func chapter() []api.Clause {
	return []api.Clause{
		with(clause(10, api.Permit), func(c *api.Clause) { c.Prefixes, c.SetPref, c.Jump = "p", 200, 30 }),
		clause(20, api.Deny),
		with(clause(30, api.Next), func(c *api.Clause) { c.SetTag = 7 }),
		with(clause(40, api.Permit), func(c *api.Clause) { c.Prepend = []uint32{65001} }),
	}
}

// run looks whether a policy's run over a subject is of these clauses, whether it permits, and which one decides; and whether all of its calls agree.
func run(t *testing.T, d api.Device, s api.Subject, clauses []int, permits bool, by int) api.Subject {
	t.Helper()
	check(t, d, s)
	marks, is, e := policy.Run(d, "m", s)
	if !slices.EqualFunc(marks, clauses, func(m policy.Mark, c int) bool { return m.Clause == c }) || is != permits || e != api.OK {
		t.Errorf("Run: %+v %v %v", marks, is, e)
	}
	if at, is, e := policy.Decides(d, "m", s); at != by || is != (by >= 0) || e != api.OK {
		t.Errorf("Decides: %d %v %v", at, is, e)
	}
	made, is, e := policy.Apply(d, "m", s)
	if is != permits || e != api.OK || !is && !plainSame(made, api.Subject{}) {
		t.Errorf("Apply: %+v %v %v", made, is, e)
	}
	return made
}

// P16.2, P16.3: the chapter's first two examples.
func TestExamples(t *testing.T) {
	d := listed(chapter()...)
	s := api.Subject{Prefix: ten(16), Pref: 100}
	if got := run(t, d, s, []int{0, 2, 3}, true, 3); !plainSame(got, api.Subject{Prefix: ten(16), Pref: 200, Tag: 7, Path: []uint32{65001}}) {
		t.Error(got)
	}
	marks, _, _ := policy.Run(d, "m", s)
	for i, want := range []api.Subject{
		{Prefix: ten(16), Pref: 200}, {Prefix: ten(16), Pref: 200, Tag: 7}, {Prefix: ten(16), Pref: 200, Tag: 7, Path: []uint32{65001}},
	} {
		if !plainSame(marks[i].Subject, want) {
			t.Errorf("%d: %+v", i, marks[i])
		}
	}
	s.Prefix = eleven
	run(t, d, s, []int{1}, false, 1)
	if marks, _, _ := policy.Run(d, "m", s); !plainSame(marks[0].Subject, s) {
		t.Error(marks)
	}
	d = listed(chapter()[:3]...)
	s.Prefix = ten(16)
	if got := run(t, d, s, []int{0, 2}, true, 0); !plainSame(got, api.Subject{Prefix: ten(16), Pref: 200, Tag: 7}) {
		t.Error(got)
	}
}

// Errors: ErrRef, and zeros beside it, of a name that no policy of the device has; whatever else is handed in.
func TestNoPolicy(t *testing.T) {
	s := api.Subject{Prefix: ten(16), Pref: 100, Path: []uint32{1}}
	for _, d := range []api.Device{listed(chapter()...), {}, {Name: "x"}} {
		for _, name := range []string{"x", "M", "m ", "p", "c", " ", "mm", "\x00"} {
			made, is, e := policy.Apply(d, name, s)
			if !plainSame(made, api.Subject{}) || is || e != api.ErrRef {
				t.Errorf("Apply %q: %+v %v %v", name, made, is, e)
			}
			if marks, is, e := policy.Run(d, name, s); len(marks) != 0 || is || e != api.ErrRef {
				t.Errorf("Run %q: %+v %v %v", name, marks, is, e)
			}
			if by, is, e := policy.Decides(d, name, s); by != 0 || is || e != api.ErrRef {
				t.Errorf("Decides %q: %d %v %v", name, by, is, e)
			}
			for _, l := range [][]api.Subject{nil, {}, {s}} {
				if all, e := policy.All(d, name, l); len(all) != 0 || e != api.ErrRef {
					t.Errorf("All %q: %+v %v", name, all, e)
				}
			}
		}
	}
}

// P16.2: an empty name permits each subject as it is, also where the device has a policy of that name, or none at all.
func TestNoName(t *testing.T) {
	s := api.Subject{Prefix: api.Prefix{Addr: 3, Bits: 50}, Metric: -1, Pref: 100, Path: []uint32{1, 1}, Comm: []uint32{3, 1, 3}}
	for _, d := range []api.Device{listed(chapter()...), {}} {
		if made, is, e := policy.Apply(d, "", s); !plainSame(made, s) || !is || e != api.OK {
			t.Errorf("%+v %v %v", made, is, e)
		}
		if marks, is, e := policy.Run(d, "", s); len(marks) != 0 || !is || e != api.OK {
			t.Errorf("%+v %v %v", marks, is, e)
		}
		if by, is, e := policy.Decides(d, "", s); by != -1 || is || e != api.OK {
			t.Errorf("%d %v %v", by, is, e)
		}
		if all, e := policy.All(d, "", []api.Subject{s, {}, s}); !slices.EqualFunc(all, []api.Subject{s, {}, s}, plainSame) || e != api.OK {
			t.Errorf("%+v %v", all, e)
		}
	}
}

// P16.2, P16.3: what no clause decides is permitted as Default says, with what Next has set.
func TestDefault(t *testing.T) {
	set := with(clause(1, api.Next), func(c *api.Clause) { c.SetTag = 9 })
	miss := with(clause(2, api.Permit), func(c *api.Clause) { c.Prefixes = "gone" })
	missed := with(clause(3, api.Deny), func(c *api.Clause) { c.Tag = 8 })
	for _, otherwise := range []bool{false, true} {
		for _, k := range []struct {
			clauses []api.Clause
			run     []int
			tag     int
		}{{nil, nil, 3}, {[]api.Clause{set}, []int{0}, 9}, {[]api.Clause{miss, missed}, nil, 3}, {[]api.Clause{missed, set, miss}, []int{1}, 9}} {
			d := listed(k.clauses...)
			d.Policies[1].Default = otherwise
			made := run(t, d, api.Subject{Tag: 3, Prefix: eleven}, k.run, otherwise, -1)
			if otherwise && made.Tag != k.tag {
				t.Error(made)
			}
		}
	}
}

// P16.2, P16.3: where a jump goes on: behind its clause, at a Seq of Jump or more; what it has permitted can be refused, or set, further on.
func TestJump(t *testing.T) {
	jump := func(seq, to int) api.Clause {
		return with(clause(seq, api.Permit), func(c *api.Clause) { c.Jump = to })
	}
	next := func(seq int) api.Clause { return clause(seq, api.Next) }
	for _, k := range []struct {
		name    string
		clauses []api.Clause
		run     []int
		permits bool
		by      int
	}{
		{"to itself", []api.Clause{jump(10, 30), next(20), next(30), next(40)}, []int{0, 2, 3}, true, 0},
		{"one below", []api.Clause{jump(10, 29), next(20), next(30)}, []int{0, 2}, true, 0},
		{"one above", []api.Clause{jump(10, 31), next(20), next(30), next(40)}, []int{0, 3}, true, 0},
		{"to the next one", []api.Clause{jump(10, 11), next(20)}, []int{0, 1}, true, 0},
		{"to its own", []api.Clause{jump(10, 10), next(20)}, []int{0, 1}, true, 0},
		{"back", []api.Clause{next(5), jump(10, 5), next(20)}, []int{0, 1, 2}, true, 1},
		{"below 0", []api.Clause{next(5), jump(10, -1), next(20)}, []int{0, 1, 2}, true, 1},
		{"behind all", []api.Clause{jump(10, 21), clause(20, api.Deny)}, []int{0}, true, 0},
		{"far behind all", []api.Clause{jump(10, math.MaxInt), clause(20, api.Deny)}, []int{0}, true, 0},
		{"the last one", []api.Clause{next(5), jump(10, 20)}, []int{0, 1}, true, 1},
		{"then refused", []api.Clause{jump(10, 20), clause(20, api.Deny), next(30)}, []int{0, 1}, false, 1},
		{"then permitted", []api.Clause{jump(10, 20), clause(20, api.Permit), next(30)}, []int{0, 1}, true, 1},
		{"then on", []api.Clause{jump(10, 20), jump(20, 40), clause(30, api.Deny), next(40), jump(50, 60)}, []int{0, 1, 3, 4}, true, 4},
		{"two that permit", []api.Clause{jump(10, 20), jump(20, 30), next(30)}, []int{0, 1, 2}, true, 1},
		{"of a deny", []api.Clause{with(clause(10, api.Deny), func(c *api.Clause) { c.Jump = 20 }), clause(20, api.Permit)}, []int{0}, false, 0},
		{"of a next", []api.Clause{with(clause(10, api.Next), func(c *api.Clause) { c.Jump = 30 }), clause(20, api.Permit), clause(30, api.Deny)}, []int{0, 1}, true, 1},
		{"of one that does not fit", []api.Clause{with(jump(10, 30), func(c *api.Clause) { c.Tag = 9 }), clause(20, api.Permit), clause(30, api.Deny)}, []int{1}, true, 1},
		{"to one that does not fit", []api.Clause{jump(10, 30), next(20), with(next(30), func(c *api.Clause) { c.Tag = 9 }), next(40)}, []int{0, 3}, true, 0},
		{"Seqs that fall behind it", []api.Clause{jump(40, 30), next(20), next(30), next(10), clause(0, api.Deny)}, []int{0, 2, 3, 4}, false, 4},
		{"the Seqs of one", []api.Clause{jump(10, 20), next(20), next(20), next(20)}, []int{0, 1, 2, 3}, true, 0},
		{"by place, not by Seq", []api.Clause{next(30), jump(20, 30), next(10), clause(30, api.Permit)}, []int{0, 1, 3}, true, 3},
	} {
		for _, otherwise := range []bool{false, true} {
			d := listed(k.clauses...)
			d.Policies[1].Default = otherwise
			run(t, d, api.Subject{Prefix: ten(8)}, k.run, k.permits, k.by)
			if t.Failed() {
				t.Fatal(k.name)
			}
		}
	}
}

// P16.2: each clause looks at the subject as it is by then: at what clauses ahead of it have set.
func TestAsItIsByThen(t *testing.T) {
	set := with(clause(1, api.Next), func(c *api.Clause) {
		c.SetMetric, c.SetTag, c.SetComm, c.Prepend = 5, 7, []uint32{2, 1}, []uint32{65001}
	})
	for i, ask := range []func(c *api.Clause){
		func(c *api.Clause) { c.Metric = 5 }, func(c *api.Clause) { c.Tag = 7 }, func(c *api.Clause) { c.Communities = "c" }, func(c *api.Clause) { c.Through = 65001 },
	} {
		asking := with(clause(2, api.Permit), ask)
		run(t, listed(set, asking), api.Subject{}, []int{0, 1}, true, 1)
		run(t, listed(asking, set), api.Subject{}, []int{1}, false, -1)
		// What was so is so no more.
		before := policy.Set(set, api.Subject{})
		unset := with(set, func(c *api.Clause) { c.SetMetric, c.SetTag, c.SetComm, c.Prepend = 6, 8, []uint32{9}, nil })
		by := []int{0}
		if i == 3 {
			by = []int{0, 1}
		}
		run(t, listed(unset, asking), before, by, len(by) > 1, len(by)*2-3)
	}
}

// P16.1, P16.2: a deny sets nothing, and an action that is none of the three neither sets nor decides.
func TestActions(t *testing.T) {
	set := with(clause(1, api.Deny), func(c *api.Clause) { c.SetTag, c.Prepend, c.Jump = 9, []uint32{9}, 50 })
	s := api.Subject{Tag: 1, Path: []uint32{4}}
	run(t, listed(set, clause(2, api.Permit)), s, []int{0}, false, 0)
	marks, _, _ := policy.Run(listed(set), "m", s)
	if !plainSame(marks[0].Subject, s) {
		t.Error(marks)
	}
	set.Action = 3
	if made := run(t, listed(set, clause(2, api.Permit)), s, []int{0, 1}, true, 1); !plainSame(made, s) {
		t.Error(made)
	}
}

// P16.2: of what is permitted, in order, what is made of it, as Apply makes it one by one.
func TestAll(t *testing.T) {
	d := listed(chapter()...)
	var l, want []api.Subject
	for i := range 40 {
		s := api.Subject{Prefix: []api.Prefix{ten(8), eleven, ten(9), {}}[i%4], Metric: i % 7, Path: []uint32{uint32(i)}}
		l = append(l, s)
		if made, is, _ := policy.Apply(d, "m", s); is {
			want = append(want, made)
		}
	}
	got, e := policy.All(d, "m", l)
	if e != api.OK || len(want) != 20 || !slices.EqualFunc(got, want, plainSame) {
		t.Error(got, e)
	}
	if all, e := policy.All(d, "other", l); len(all) != 0 || e != api.OK {
		t.Error(all, e)
	}
	if all, e := policy.All(d, "m", nil); len(all) != 0 || e != api.OK {
		t.Error(all, e)
	}
	// The same subject as often as it stands there.
	if all, e := policy.All(d, "m", []api.Subject{l[0], l[2], l[0]}); len(all) != 3 || e != api.OK || all[2].Path[1] != 0 || all[1].Path[1] != 2 {
		t.Error(all, e)
	}
}
