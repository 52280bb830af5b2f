package filter_test

import (
	"math/rand"
	"slices"
	"testing"

	"waymark/api"
	"waymark/filter"
)

// P10.5: a rule with which one behind it shares no header may change its place with that one.
func TestOrder(t *testing.T) {
	r := rand.New(rand.NewSource(10))
	s := space(t)
	node := ok[int](t)
	swapped, unlike := 0, 0
	for i := range 600 {
		rules := anyRules(r, i%2*real, 2+r.Intn(6))
		at := r.Intn(len(rules) - 1)
		shared := node(s.And(fitSet(t, s, rules[at]), fitSet(t, s, rules[at+1])))
		set := node(filter.Set(s, api.Filter{Rules: rules}))
		each := ok[[]int](t)(filter.Rules(s, api.Filter{Rules: rules}))
		other := slices.Clone(rules)
		other[at], other[at+1] = other[at+1], other[at]
		turned := node(filter.Set(s, api.Filter{Rules: other}))
		if shared != 0 {
			if turned != set {
				unlike++
			}
			continue
		}
		swapped++
		each[at], each[at+1] = each[at+1], each[at]
		if got := ok[[]int](t)(filter.Rules(s, api.Filter{Rules: other})); turned != set || !slices.Equal(got, each) {
			t.Fatal(turned, set, rules, at)
		}
	}
	if swapped < 50 || unlike < 20 {
		t.Error(swapped, "swapped,", unlike, "unlike")
	}
}

// P10.5: a rule that decides no header may be left out; one that decides some is seen in the sets.
func TestLeftOut(t *testing.T) {
	r := rand.New(rand.NewSource(10))
	s := space(t)
	node := ok[int](t)
	idle := 0
	for range 300 {
		rules := anyRules(r, near, 1+r.Intn(9))
		set := node(filter.Set(s, api.Filter{Rules: rules}))
		each := ok[[]int](t)(filter.Rules(s, api.Filter{Rules: rules}))
		for i, n := range each {
			f := api.Filter{Rules: slices.Concat(rules[:i], rules[i+1:])}
			got := node(filter.Set(s, f))
			rest := ok[[]int](t)(filter.Rules(s, f))
			if n == 0 {
				idle++
				if got != set || !slices.Equal(rest, slices.Concat(each[:i], each[i+1:])) {
					t.Fatal("left out", i, rules)
				}
			}
			// Without a rule only what it has decided can fare otherwise.
			won, lost := node(s.Less(got, set)), node(s.Less(set, got))
			if node(s.Less(won, n)) != 0 || node(s.Less(lost, n)) != 0 {
				t.Fatal("other headers", i, rules)
			}
		}
	}
	if idle < 100 {
		t.Error("only", idle)
	}
}

// P10.5: with permit and deny changed about, and one that permits all behind, just what was denied is permitted.
func TestChangedAbout(t *testing.T) {
	r := rand.New(rand.NewSource(10))
	s := space(t)
	node := ok[int](t)
	for i := range 200 {
		rules := anyRules(r, i%3, r.Intn(9))
		set := node(filter.Set(s, api.Filter{Rules: rules}))
		var other []api.Rule
		for _, r := range rules {
			other = append(other, changed(r, func(r *api.Rule) { r.Permit = !r.Permit }))
		}
		turned := node(filter.Set(s, api.Filter{Rules: append(other, anything(true))}))
		if turned != node(s.Not(set)) {
			t.Fatal(rules)
		}
	}
}

// P10.5: what stands behind a rule that asks nothing decides nothing; behind one that asks for as little as can be it may.
func TestBehindAll(t *testing.T) {
	s := space(t)
	node := ok[int](t)
	behind := []api.Rule{example().Rules[0], anything(true), anything(false)}
	for _, permit := range []bool{false, true} {
		f := api.Filter{Rules: append([]api.Rule{anything(permit)}, behind...)}
		if each := ok[[]int](t)(filter.Rules(s, f)); !slices.Equal(each, []int{1, 0, 0, 0}) {
			t.Error(each)
		}
		if set := node(filter.Set(s, f)); set != 1 && permit || set != 0 && !permit {
			t.Error(set)
		}
		for i, change := range []func(*api.Rule){
			func(r *api.Rule) { r.Proto = 0 },
			func(r *api.Rule) { r.Proto = 255 },
			func(r *api.Rule) { r.Src = api.Prefix{Bits: 1} },
			func(r *api.Rule) { r.Dst = api.Prefix{Addr: 1 << 31, Bits: 1} },
			func(r *api.Rule) { r.SrcPorts.Lo = 1 },
			func(r *api.Rule) { r.SrcPorts.Hi = 65534 },
			func(r *api.Rule) { r.DstPorts.Lo = 1 },
			func(r *api.Rule) { r.DstPorts.Hi = 65534 },
		} {
			ahead := changed(anything(permit), change)
			f := api.Filter{Rules: []api.Rule{ahead, anything(!permit)}}
			fit := fitSet(t, s, ahead)
			others := node(s.Not(fit))
			want := others
			if permit {
				want = fit
			}
			if set := node(filter.Set(s, f)); set != want {
				t.Error(i, permit, set, want)
			}
			if each := ok[[]int](t)(filter.Rules(s, f)); !slices.Equal(each, []int{fit, others}) || others == 0 {
				t.Error(i, permit, each)
			}
		}
	}
}
