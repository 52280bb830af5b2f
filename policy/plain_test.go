package policy_test

import (
	"math/rand"
	"slices"
	"testing"

	"waymark/api"
	"waymark/lists"
	"waymark/policy"
)

// clause is one that asks and sets nothing.
func clause(seq int, action uint8) api.Clause {
	return api.Clause{Seq: seq, Action: action, Tag: -1, Metric: -1, Through: -1, SetMetric: -1, SetPref: -1, SetTag: -1}
}

// with is a clause with something changed.
func with(c api.Clause, change func(c *api.Clause)) api.Clause {
	change(&c)
	return c
}

// ten is a prefix of 10.0.0.0 with so many bits.
func ten(bits int) api.Prefix { return api.Prefix{Addr: 0x0A000000, Bits: bits} }

var eleven = api.Prefix{Addr: 0x0B000000, Bits: 8}

// listed is a device with prefix lists p (10.0.0.0/8 le 32), short (all le 8) and none, and community lists c (1 and 2), any and none; of some names there are two, of which the first counts.
func listed(clauses ...api.Clause) api.Device {
	return api.Device{
		Prefixes: []api.PrefixList{
			{Name: "none"},
			{Name: "p", Entries: []api.Entry{{Permit: true, Prefix: ten(8), Ge: 8, Le: 32}}},
			{Name: "short", Entries: []api.Entry{{Prefix: eleven, Ge: 8, Le: 8}, {Permit: true, Le: 8}}},
			{Name: "p", Entries: []api.Entry{{Permit: true, Le: 32}}},
			{Name: "none", Entries: []api.Entry{{Permit: true, Le: 32}}},
		},
		Communities: []api.CommunityList{
			{Name: "none"},
			{Name: "c", Members: []api.Member{{All: []uint32{9}}, {Permit: true, All: []uint32{2, 1}}}},
			{Name: "any", Members: []api.Member{{Permit: true}}},
			{Name: "c", Members: []api.Member{{Permit: true}}},
			{Name: "none", Members: []api.Member{{Permit: true}}},
		},
		Policies: []api.Policy{
			{Name: "other", Clauses: []api.Clause{clause(1, api.Deny)}, Default: true},
			{Name: "m", Clauses: clauses},
			{Name: "m", Clauses: []api.Clause{with(clause(1, api.Permit), func(c *api.Clause) { c.SetMetric = 999 })}, Default: true},
			{Name: "", Clauses: []api.Clause{clause(1, api.Deny)}},
		},
	}
}

// plainFits tells whether a clause fits, each question by itself.
func plainFits(d api.Device, c api.Clause, s api.Subject) bool {
	if c.Prefixes != "" {
		is := false
		for i := len(d.Prefixes) - 1; i >= 0; i-- {
			if d.Prefixes[i].Name == c.Prefixes {
				is = lists.Permits(d.Prefixes[i], s.Prefix)
			}
		}
		if !is {
			return false
		}
	}
	if c.Communities != "" {
		is := false
		for i := len(d.Communities) - 1; i >= 0; i-- {
			if d.Communities[i].Name == c.Communities {
				is = lists.Allows(d.Communities[i], s.Comm)
			}
		}
		if !is {
			return false
		}
	}
	through := c.Through == -1
	for _, as := range s.Path {
		through = through || c.Through >= 0 && uint64(c.Through) == uint64(as)
	}
	return through && (c.Tag == -1 || c.Tag == s.Tag) && (c.Metric == -1 || c.Metric == s.Metric)
}

// plainSet is a subject with what a clause sets.
func plainSet(c api.Clause, s api.Subject) api.Subject {
	put := func(field *int, value int) {
		if value != -1 {
			*field = value
		}
	}
	put(&s.Metric, c.SetMetric)
	put(&s.Pref, c.SetPref)
	put(&s.Tag, c.SetTag)
	if c.SetHop != 0 {
		s.Hop = c.SetHop
	}
	s.Path = slices.Concat(c.Prepend, s.Path)
	if len(c.SetComm) > 0 {
		all := map[uint32]bool{}
		for _, n := range c.SetComm {
			all[n] = true
		}
		for _, n := range s.Comm {
			all[n] = all[n] || c.Add
		}
		s.Comm = nil
		for n, is := range all {
			if is {
				s.Comm = append(s.Comm, n)
			}
		}
		slices.Sort(s.Comm)
	} else {
		s.Comm = slices.Clone(s.Comm)
	}
	return s
}

// plainEnd is what clauses come to.
type plainEnd struct {
	marks   []policy.Mark
	subject api.Subject
	permits bool
	by      int
}

// plainRun is what clauses come to, of which the first one stands at a place, and what none decides is permitted or not: what the first one says, and then what the others say (P16.4).
func plainRun(d api.Device, clauses []api.Clause, at int, s api.Subject, otherwise bool) plainEnd {
	if len(clauses) == 0 {
		return plainEnd{subject: s, permits: otherwise, by: -1}
	}
	c, rest := clauses[0], clauses[1:]
	if !plainFits(d, c, s) {
		return plainRun(d, rest, at+1, s, otherwise)
	}
	if c.Action == api.Deny {
		return plainEnd{marks: []policy.Mark{{Clause: at, Subject: s}}, by: at}
	}
	if c.Action == api.Permit || c.Action == api.Next {
		s = plainSet(c, s)
	}
	mark := policy.Mark{Clause: at, Subject: s}
	if c.Action == api.Permit && c.Jump == 0 {
		return plainEnd{marks: []policy.Mark{mark}, subject: s, permits: true, by: at}
	}
	at++
	if c.Action == api.Permit {
		otherwise = true
		for len(rest) > 0 && rest[0].Seq < c.Jump {
			rest = rest[1:]
			at++
		}
	}
	end := plainRun(d, rest, at, s, otherwise)
	end.marks = append([]policy.Mark{mark}, end.marks...)
	if c.Action == api.Permit && end.by < 0 {
		end.by = mark.Clause
	}
	return end
}

// plainSame tells whether two subjects are the same.
func plainSame(a, b api.Subject) bool {
	if len(a.Path) != len(b.Path) || len(a.Comm) != len(b.Comm) {
		return false
	}
	for i := range a.Path {
		if a.Path[i] != b.Path[i] {
			return false
		}
	}
	for i := range a.Comm {
		if a.Comm[i] != b.Comm[i] {
			return false
		}
	}
	return a.Prefix.Addr == b.Prefix.Addr && a.Prefix.Bits == b.Prefix.Bits && a.Metric == b.Metric && a.Tag == b.Tag && a.Pref == b.Pref && a.Hop == b.Hop
}

// check looks whether all calls say of the policy m of a device what its clauses, one by one, come to.
func check(t *testing.T, d api.Device, s api.Subject) plainEnd {
	t.Helper()
	m := d.Policies[slices.IndexFunc(d.Policies, func(p api.Policy) bool { return p.Name == "m" })]
	want := plainRun(d, m.Clauses, 0, s, m.Default)
	if !want.permits {
		want.subject = api.Subject{}
	}
	got, is, e := policy.Apply(d, "m", s)
	if e != api.OK || is != want.permits || !plainSame(got, want.subject) {
		t.Errorf("%+v of %+v: Apply %+v %v %v, not %+v", m, s, got, is, e, want)
	}
	marks, is, e := policy.Run(d, "m", s)
	if e != api.OK || is != want.permits || !slices.EqualFunc(marks, want.marks, sameMark) {
		t.Errorf("%+v of %+v: Run %+v %v %v, not %+v", m, s, marks, is, e, want)
	}
	by, is, e := policy.Decides(d, "m", s)
	if e != api.OK || by != want.by || is != (want.by >= 0) {
		t.Errorf("%+v of %+v: Decides %d %v %v, not %+v", m, s, by, is, e, want)
	}
	return want
}

func sameMark(a, b policy.Mark) bool {
	return a.Clause == b.Clause && plainSame(a.Subject, b.Subject)
}

// one is any one of several.
func one[T any](r *rand.Rand, of ...T) T { return of[r.Intn(len(of))] }

// some are a few of several, in any order, some of them twice.
func some(r *rand.Rand, most int, of ...uint32) []uint32 {
	var list []uint32
	for range r.Intn(most + 1) {
		list = append(list, one(r, of...))
	}
	return list
}

// anySubject is any subject of which the clauses of anyClause ask.
func anySubject(r *rand.Rand) api.Subject {
	return api.Subject{
		Prefix: one(r, ten(8), ten(16), eleven, api.Prefix{}, api.Prefix{Addr: 0x0A010000, Bits: 8}),
		Metric: one(r, 0, 5), Tag: one(r, 0, 7), Pref: one(r, 0, 100), Hop: one[api.Addr](r, 0, 1),
		Path: some(r, 3, 0, 1, 65001), Comm: some(r, 4, 1, 2, 9, 3),
	}
}

// anyClause is any clause; often it asks little.
func anyClause(r *rand.Rand, seq int) api.Clause {
	c := clause(seq, one(r, api.Permit, api.Permit, api.Next, api.Next, api.Next, api.Deny))
	if r.Intn(2) == 0 {
		c.Prefixes = one(r, "p", "short", "p", "short", "none", "gone")
	}
	if r.Intn(3) == 0 {
		c.Communities = one(r, "c", "any", "c", "any", "none", "gone")
	}
	if r.Intn(4) == 0 {
		c.Tag = one(r, 0, 7)
	}
	if r.Intn(4) == 0 {
		c.Metric = one(r, 0, 5)
	}
	if r.Intn(4) == 0 {
		c.Through = one(r, 0, 1, 65001)
	}
	c.SetMetric, c.SetPref, c.SetTag = one(r, -1, -1, 0, 5), one(r, -1, 200), one(r, -1, -1, 0, 7)
	c.SetComm, c.Add, c.Prepend = some(r, 2, 1, 2, 9, 0xFFFFFFFF), r.Intn(2) == 0, some(r, 2, 65001, 0)
	c.SetHop = one[api.Addr](r, 0, 0, 2)
	if r.Intn(3) == 0 {
		c.Jump = seq + r.Intn(40)
	}
	return c
}

// anyClauses are so many clauses by rising Seqs.
func anyClauses(r *rand.Rand, count int) []api.Clause {
	var list []api.Clause
	seq := 0
	for range count {
		seq += 1 + r.Intn(15)
		list = append(list, anyClause(r, seq))
	}
	return list
}

// P16.1: of any clause and any subject.
func TestFitsAndSetAny(t *testing.T) {
	r := rand.New(rand.NewSource(161))
	d := listed()
	fit := 0
	for range 100000 {
		c, s := anyClause(r, 10), anySubject(r)
		want := plainFits(d, c, s)
		if want {
			fit++
		}
		if policy.Fits(d, c, s) != want {
			t.Fatalf("Fits(%+v, %+v): not %v", c, s, want)
		}
		if got := policy.Set(c, s); !plainSame(got, plainSet(c, s)) {
			t.Fatalf("Set(%+v, %+v): %+v", c, s, got)
		}
	}
	if fit < 20000 || fit > 80000 {
		t.Error(fit)
	}
}

// P16.2, P16.3, P16.4: of any policy and any subject; refused, permitted, by a clause, by none, by a jump all come up.
func TestAny(t *testing.T) {
	r := rand.New(rand.NewSource(162))
	var denied, by, jumped, none [2]int
	for range 30000 {
		d := listed(anyClauses(r, r.Intn(8))...)
		d.Policies[1].Default = r.Intn(2) == 0
		for range 3 {
			end := check(t, d, anySubject(r))
			long := min(1, len(end.marks)/3)
			switch {
			case end.by < 0:
				none[long]++
			case !end.permits:
				denied[long]++
			case d.Policies[1].Clauses[end.by].Jump != 0:
				jumped[long]++
			default:
				by[long]++
			}
		}
		if t.Failed() {
			return
		}
	}
	for _, n := range [][2]int{denied, by, jumped, none} {
		if n[0] < 1000 || n[1] < 300 {
			t.Error(denied, by, jumped, none)
		}
	}
}

// P16.2, P16.3: Seqs that do not rise, jumps back and of all sizes, and actions that are none: any device is taken.
func TestAnyOrder(t *testing.T) {
	r := rand.New(rand.NewSource(163))
	for range 30000 {
		var clauses []api.Clause
		for range r.Intn(8) {
			c := anyClause(r, r.Intn(7)-3)
			if r.Intn(2) == 0 {
				c.Jump = r.Intn(9) - 4
			}
			c.Action = one(r, c.Action, c.Action, c.Action, 3, 255)
			clauses = append(clauses, c)
		}
		d := listed(clauses...)
		d.Policies[1].Default = r.Intn(2) == 0
		check(t, d, anySubject(r))
		if t.Failed() {
			return
		}
	}
}
