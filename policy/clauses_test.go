package policy_test

import (
	"math"
	"slices"
	"testing"

	"waymark/api"
	"waymark/policy"
)

// P16.1: what each question asks, alone.
func TestFitsKnown(t *testing.T) {
	d := listed()
	s := api.Subject{Prefix: ten(16), Metric: 5, Tag: 7, Pref: 100, Path: []uint32{65001, 0, math.MaxUint32}, Comm: []uint32{3, 2, 1}, Hop: 4}
	for _, k := range []struct {
		name   string
		change func(c *api.Clause)
		fits   bool
	}{
		{"nothing", func(c *api.Clause) {}, true},
		{"p", func(c *api.Clause) { c.Prefixes = "p" }, true},
		{"the first p only", func(c *api.Clause) { c.Prefixes = "short" }, false},
		{"an empty list", func(c *api.Clause) { c.Prefixes = "none" }, false},
		{"a list that is not there", func(c *api.Clause) { c.Prefixes = "gone" }, false},
		{"a community list's name", func(c *api.Clause) { c.Prefixes = "c" }, false},
		{"c", func(c *api.Clause) { c.Communities = "c" }, true},
		{"any", func(c *api.Clause) { c.Communities = "any" }, true},
		{"an empty community list", func(c *api.Clause) { c.Communities = "none" }, false},
		{"a community list that is not there", func(c *api.Clause) { c.Communities = "gone" }, false},
		{"a prefix list's name", func(c *api.Clause) { c.Communities = "p" }, false},
		{"its tag", func(c *api.Clause) { c.Tag = 7 }, true},
		{"another tag", func(c *api.Clause) { c.Tag = 8 }, false},
		{"no tag", func(c *api.Clause) { c.Tag = 0 }, false},
		{"a tag below", func(c *api.Clause) { c.Tag = -2 }, false},
		{"its metric", func(c *api.Clause) { c.Metric = 5 }, true},
		{"another metric", func(c *api.Clause) { c.Metric = 7 }, false},
		{"no metric", func(c *api.Clause) { c.Metric = 0 }, false},
		{"the first of the path", func(c *api.Clause) { c.Through = 65001 }, true},
		{"a nought in the path", func(c *api.Clause) { c.Through = 0 }, true},
		{"the greatest of the path", func(c *api.Clause) { c.Through = math.MaxUint32 }, true},
		{"none of the path", func(c *api.Clause) { c.Through = 65002 }, false},
		{"one that stands in the communities alone", func(c *api.Clause) { c.Through = 3 }, false},
		{"none by 32 bits", func(c *api.Clause) { c.Through = 1 << 32 }, false},
		{"the path's by 32 bits", func(c *api.Clause) { c.Through = 1<<32 + 65001 }, false},
		{"below all", func(c *api.Clause) { c.Through = math.MinInt }, false},
		{"all that is so", func(c *api.Clause) {
			c.Prefixes, c.Communities, c.Tag, c.Metric, c.Through = "p", "c", 7, 5, 65001
		}, true},
		{"a deny", func(c *api.Clause) { c.Action, c.Tag = api.Deny, 7 }, true},
		{"a deny of another", func(c *api.Clause) { c.Action, c.Tag = api.Deny, 8 }, false},
		{"what it sets is nothing to it", func(c *api.Clause) {
			c.Seq, c.SetMetric, c.SetTag, c.SetPref, c.SetHop, c.Jump = -5, 9, 9, 9, 9, -7
			c.SetComm, c.Prepend = []uint32{9}, []uint32{9}
		}, true},
	} {
		if fits := policy.Fits(d, with(clause(1, api.Permit), k.change), s); fits != k.fits {
			t.Errorf("%s: %v", k.name, fits)
		}
	}
}

// P16.1: one question that is not met is enough, whichever it is.
func TestFitsEachQuestion(t *testing.T) {
	d := listed()
	s := api.Subject{Prefix: ten(16), Metric: 5, Tag: 7, Path: []uint32{65001}, Comm: []uint32{2, 1}}
	all := with(clause(1, api.Permit), func(c *api.Clause) { c.Prefixes, c.Communities, c.Tag, c.Metric, c.Through = "p", "c", 7, 5, 65001 })
	for i, change := range []func(s *api.Subject){
		func(s *api.Subject) {}, func(s *api.Subject) { s.Prefix = eleven }, func(s *api.Subject) { s.Prefix.Addr++ }, func(s *api.Subject) { s.Comm = s.Comm[:1] },
		func(s *api.Subject) { s.Comm = []uint32{9, 1, 2} }, func(s *api.Subject) { s.Tag = -1 }, func(s *api.Subject) { s.Metric = -1 }, func(s *api.Subject) { s.Path = nil },
	} {
		changed := s
		change(&changed)
		if fits := policy.Fits(d, all, changed); fits != (i == 0) {
			t.Errorf("%d: %+v: %v", i, changed, fits)
		}
	}
	// A device's only lists.
	d.Prefixes, d.Communities = d.Prefixes[1:2], d.Communities[1:2]
	if !policy.Fits(d, all, s) {
		t.Error("the first lists")
	}
	// -1 asks nothing, even where the subject has it; a device without lists permits nothing by one.
	if !policy.Fits(api.Device{}, clause(1, api.Deny), api.Subject{Tag: 3, Metric: -1}) {
		t.Error("nothing asked")
	}
	for _, c := range []api.Clause{with(all, func(c *api.Clause) { c.Prefixes = "" }), with(all, func(c *api.Clause) { c.Communities = "" })} {
		if policy.Fits(api.Device{}, c, s) {
			t.Error("lists of no device")
		}
	}
	if !policy.Fits(api.Device{}, with(all, func(c *api.Clause) { c.Prefixes, c.Communities = "", "" }), s) {
		t.Error("without lists")
	}
}

// P16.1: what each field sets, alone; whatever the action is; and what is not set stays.
func TestSetKnown(t *testing.T) {
	s := api.Subject{Prefix: ten(16), Metric: 5, Tag: 7, Pref: 100, Path: []uint32{3, 3}, Comm: []uint32{3, 1, 3}, Hop: 4}
	for _, k := range []struct {
		name   string
		change func(c *api.Clause)
		set    func(s *api.Subject)
	}{
		{"nothing", func(c *api.Clause) {}, func(s *api.Subject) {}},
		{"metric", func(c *api.Clause) { c.SetMetric = 0 }, func(s *api.Subject) { s.Metric = 0 }},
		{"metric below", func(c *api.Clause) { c.SetMetric = -2 }, func(s *api.Subject) { s.Metric = -2 }},
		{"pref", func(c *api.Clause) { c.SetPref = 0 }, func(s *api.Subject) { s.Pref = 0 }},
		{"tag", func(c *api.Clause) { c.SetTag = 1 << 24 }, func(s *api.Subject) { s.Tag = 1 << 24 }},
		{"hop", func(c *api.Clause) { c.SetHop = 9 }, func(s *api.Subject) { s.Hop = 9 }},
		{"communities", func(c *api.Clause) { c.SetComm = []uint32{2, 1, 2} }, func(s *api.Subject) { s.Comm = []uint32{1, 2} }},
		{"more communities", func(c *api.Clause) { c.SetComm, c.Add = []uint32{2, 1, 2}, true }, func(s *api.Subject) { s.Comm = []uint32{1, 2, 3} }},
		{"the same communities", func(c *api.Clause) { c.SetComm, c.Add = []uint32{3}, true }, func(s *api.Subject) { s.Comm = []uint32{1, 3} }},
		{"no more communities", func(c *api.Clause) { c.SetComm, c.Add = []uint32{}, true }, func(s *api.Subject) {}},
		{"path", func(c *api.Clause) { c.Prepend = []uint32{2, 9, 2} }, func(s *api.Subject) { s.Path = []uint32{2, 9, 2, 3, 3} }},
		{"an empty path", func(c *api.Clause) { c.Prepend = []uint32{} }, func(s *api.Subject) {}},
		{"what is asked sets nothing", func(c *api.Clause) {
			c.Seq, c.Prefixes, c.Communities, c.Tag, c.Metric, c.Through, c.Jump = 9, "gone", "gone", 9, 9, 9, 99
		}, func(s *api.Subject) {}},
		{"all", func(c *api.Clause) {
			c.SetMetric, c.SetPref, c.SetTag, c.SetHop, c.SetComm, c.Prepend = 1, 2, 3, 4, []uint32{5}, []uint32{6}
		}, func(s *api.Subject) {
			s.Metric, s.Pref, s.Tag, s.Hop, s.Comm, s.Path = 1, 2, 3, 4, []uint32{5}, []uint32{6, 3, 3}
		}},
	} {
		for _, action := range []uint8{api.Deny, api.Permit, api.Next, 3, 255} {
			c, want := clause(1, action), s
			k.change(&c)
			k.set(&want)
			if got := policy.Set(c, s); !plainSame(got, want) {
				t.Errorf("%s, %d: %+v", k.name, action, got)
			}
		}
	}
}

// P16.1: the chapter's third example.
func TestSetCommunities(t *testing.T) {
	s := api.Subject{Comm: []uint32{3, 1}}
	c := with(clause(1, api.Permit), func(c *api.Clause) { c.SetComm = []uint32{2, 1, 2} })
	if got := policy.Set(c, s).Comm; !slices.Equal(got, []uint32{1, 2}) {
		t.Error(got)
	}
	c.Add = true
	if got := policy.Set(c, s).Comm; !slices.Equal(got, []uint32{1, 2, 3}) {
		t.Error(got)
	}
	c.SetComm = nil
	if got := policy.Set(c, s).Comm; !slices.Equal(got, []uint32{3, 1}) {
		t.Error(got)
	}
}

// P16.1: each field tells two subjects apart; empty lists are the same as none (R6).
func TestSame(t *testing.T) {
	s := api.Subject{Prefix: ten(16), Metric: 5, Tag: 7, Pref: 100, Path: []uint32{3, 4}, Comm: []uint32{3, 1}, Hop: 4}
	for i, change := range []func(s *api.Subject){
		func(s *api.Subject) { s.Prefix.Addr++ }, func(s *api.Subject) { s.Prefix.Bits++ }, func(s *api.Subject) { s.Metric++ }, func(s *api.Subject) { s.Tag++ },
		func(s *api.Subject) { s.Pref++ }, func(s *api.Subject) { s.Hop++ }, func(s *api.Subject) { s.Path = []uint32{4, 3} }, func(s *api.Subject) { s.Path = []uint32{3} },
		func(s *api.Subject) { s.Path = []uint32{3, 4, 4} }, func(s *api.Subject) { s.Path = nil }, func(s *api.Subject) { s.Comm = []uint32{1, 3} }, func(s *api.Subject) { s.Comm = []uint32{3} },
		func(s *api.Subject) { s.Comm = []uint32{3, 1, 1} }, func(s *api.Subject) { s.Comm = nil }, func(s *api.Subject) { s.Path, s.Comm = s.Comm, s.Path },
	} {
		other := s
		change(&other)
		if policy.Same(s, other) || policy.Same(other, s) || !policy.Same(other, other) {
			t.Errorf("%d: %+v", i, other)
		}
	}
	copied := s
	copied.Path, copied.Comm = append(slices.Clone(s.Path), 9)[:2], append(slices.Clone(s.Comm), 8)[:2]
	if !policy.Same(s, copied) || !policy.Same(copied, s) {
		t.Error(copied)
	}
	if !policy.Same(api.Subject{}, api.Subject{Path: []uint32{}, Comm: []uint32{}}) || !policy.Same(api.Subject{Path: []uint32{}}, api.Subject{Comm: []uint32{}}) {
		t.Error("empty lists")
	}
}
