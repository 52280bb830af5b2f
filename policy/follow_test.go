package policy_test

import (
	"math/rand"
	"slices"
	"testing"

	"waymark/api"
	"waymark/policy"
)

// apply is what clauses, with this Default, make of a subject.
func apply(t *testing.T, clauses []api.Clause, otherwise bool, s api.Subject) (api.Subject, bool) {
	t.Helper()
	d := listed(clauses...)
	d.Policies[1].Default = otherwise
	made, is, e := policy.Apply(d, "m", s)
	if e != api.OK {
		t.Error(e)
	}
	return made, is
}

// P16.4: a policy is what its first clause says, and then what the others say.
func TestClauseByClause(t *testing.T) {
	r := rand.New(rand.NewSource(164))
	var came [5]int
	for range 40000 {
		clauses := anyClauses(r, 1+r.Intn(6))
		otherwise := r.Intn(2) == 0
		s := anySubject(r)
		first, others := clauses[0], clauses[1:]
		var want api.Subject
		is, kind := false, 0
		switch {
		case !policy.Fits(listed(), first, s):
			want, is = apply(t, others, otherwise, s)
		case first.Action == api.Deny:
			kind = 1
		case first.Action == api.Next:
			kind = 2
			want, is = apply(t, others, otherwise, policy.Set(first, s))
		case first.Jump == 0:
			kind = 3
			want, is = policy.Set(first, s), true
		default:
			kind = 4
			at := slices.IndexFunc(others, func(c api.Clause) bool { return c.Seq >= first.Jump })
			if at < 0 {
				at = len(others)
			}
			want, is = apply(t, others[at:], true, policy.Set(first, s))
		}
		came[kind]++
		got, permits := apply(t, clauses, otherwise, s)
		if permits != is || !plainSame(got, want) {
			t.Fatalf("%+v of %+v: %+v %v, not %+v %v", clauses, s, got, permits, want, is)
		}
	}
	if slices.Min(came[:]) < 1000 {
		t.Error(came)
	}
}

// P16.5: a clause that does not stand in a run, of a policy whose Seqs rise, can be left out; what is left out of the run alone does not count.
func TestLeftOut(t *testing.T) {
	r := rand.New(rand.NewSource(165))
	leftOut, landed := 0, 0
	for range 20000 {
		clauses := anyClauses(r, 1+r.Intn(7))
		otherwise := r.Intn(2) == 0
		s := anySubject(r)
		d := listed(clauses...)
		d.Policies[1].Default = otherwise
		marks, is, _ := policy.Run(d, "m", s)
		made, _ := apply(t, clauses, otherwise, s)
		var stands []api.Clause
		for i, c := range clauses {
			if slices.ContainsFunc(marks, func(m policy.Mark) bool { return m.Clause == i }) {
				stands = append(stands, c)
				continue
			}
			leftOut++
			if slices.ContainsFunc(clauses[:i], func(o api.Clause) bool { return o.Jump == c.Seq }) {
				landed++
			}
			got, permits := apply(t, slices.Delete(slices.Clone(clauses), i, i+1), otherwise, s)
			if permits != is || !plainSame(got, made) {
				t.Fatalf("%+v without %d of %+v: %+v %v, not %+v %v", clauses, i, s, got, permits, made, is)
			}
		}
		if got, permits := apply(t, stands, otherwise, s); permits != is || !plainSame(got, made) {
			t.Fatalf("%+v, only the run, of %+v: %+v %v, not %+v %v", clauses, s, got, permits, made, is)
		}
	}
	if leftOut < 20000 || landed < 100 {
		t.Error(leftOut, landed)
	}
}

// P16.5: what no clause sets stays; the Prefix always does.
func TestStays(t *testing.T) {
	r := rand.New(rand.NewSource(166))
	permitted := 0
	for range 20000 {
		clauses := anyClauses(r, r.Intn(7))
		// Each field that is left to the clauses is set by them alone.
		left := r.Intn(1 << 6)
		for i := range clauses {
			c := &clauses[i]
			for bit, clear := range []func(){
				func() { c.SetMetric = -1 }, func() { c.SetPref = -1 }, func() { c.SetTag = -1 }, func() { c.SetHop = 0 }, func() { c.SetComm = nil }, func() { c.Prepend = nil },
			} {
				if left>>bit&1 == 0 {
					clear()
				}
			}
		}
		s := anySubject(r)
		got, is := apply(t, clauses, true, s)
		if !is {
			continue
		}
		permitted++
		stays := []bool{got.Metric == s.Metric, got.Pref == s.Pref, got.Tag == s.Tag, got.Hop == s.Hop, slices.Equal(got.Comm, s.Comm), slices.Equal(got.Path, s.Path)}
		for bit, stays := range stays {
			if !stays && left>>bit&1 == 0 {
				t.Fatalf("%+v of %+v: %+v", clauses, s, got)
			}
		}
		if got.Prefix != s.Prefix || len(got.Path) < len(s.Path) || !slices.Equal(got.Path[len(got.Path)-len(s.Path):], s.Path) {
			t.Fatalf("%+v of %+v: %+v", clauses, s, got)
		}
	}
	if permitted < 5000 {
		t.Error(permitted)
	}
}

// P16.5: what only permits and denies leaves what it permits, and permits it again.
func TestOnlyPermits(t *testing.T) {
	r := rand.New(rand.NewSource(167))
	permitted, refused := 0, 0
	for range 20000 {
		clauses := anyClauses(r, r.Intn(7))
		for i, c := range clauses {
			clauses[i] = with(clause(c.Seq, c.Action&1), func(o *api.Clause) {
				o.Prefixes, o.Communities, o.Tag, o.Metric, o.Through, o.Jump = c.Prefixes, c.Communities, c.Tag, c.Metric, c.Through, c.Jump
			})
		}
		otherwise := r.Intn(2) == 0
		s := anySubject(r)
		got, is := apply(t, clauses, otherwise, s)
		if !is {
			refused++
			continue
		}
		permitted++
		again, also := apply(t, clauses, otherwise, got)
		if !plainSame(got, s) || !also || !plainSame(again, s) {
			t.Fatalf("%+v of %+v: %+v, %+v %v", clauses, s, got, again, also)
		}
	}
	if permitted < 3000 || refused < 3000 {
		t.Error(permitted, refused)
	}
}
