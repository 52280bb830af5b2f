package filter

import (
	"slices"

	"waymark/api"
	"waymark/rel"
)

// everything is the set of all headers, in each space.
const everything = 1

// Set is what a filter permits.
func Set(s *rel.Space, f api.Filter) (int, api.Errno) {
	if e := check(s, f); e != api.OK {
		return 0, e
	}
	permitted := 0
	// The last one first: what a rule says is put over what those behind it say.
	for _, r := range slices.Backward(reached(f.Rules)) {
		put := s.Less
		if r.Permit {
			put = s.Or
		}
		fit, e := laid(s, r)
		if e != api.OK {
			return 0, e
		}
		if permitted, e = put(permitted, fit); e != api.OK {
			return 0, e
		}
	}
	return permitted, api.OK
}

// Rules are the sets for which each rule decides.
func Rules(s *rel.Space, f api.Filter) ([]int, api.Errno) {
	if e := check(s, f); e != api.OK {
		return nil, e
	}
	list := make([]int, len(f.Rules))
	left := everything
	for i, r := range reached(f.Rules) {
		fit, e := laid(s, r)
		if e != api.OK {
			return nil, e
		}
		if list[i], e = s.And(fit, left); e != api.OK {
			return nil, e
		}
		if left, e = s.Less(left, list[i]); e != api.OK {
			return nil, e
		}
	}
	return list, api.OK
}

// check tells whether there is a space, and whether a filter may be.
func check(s *rel.Space, f api.Filter) api.Errno {
	if s == nil {
		return api.ErrNil
	}
	return Check(f)
}

// reached are the rules up to the first one that asks nothing. Those behind it decide nothing, and so should take no room.
func reached(rules []api.Rule) []api.Rule {
	for i, r := range rules {
		if r == (api.Rule{Permit: r.Permit, Proto: anyProto, SrcPorts: allPorts(), DstPorts: allPorts()}) {
			return rules[:i+1]
		}
	}
	return rules
}

// allPorts is the span of all of them.
func allPorts() api.Span { return api.Span{Lo: 0, Hi: topPort} }

// laid is the set of the headers that fit a rule.
func laid(s *rel.Space, r api.Rule) (int, api.Errno) {
	fit := everything
	for _, field := range fields(s, r) {
		in, e := field()
		if e != api.OK {
			return 0, e
		}
		if fit, e = s.And(in, fit); e != api.OK {
			return 0, e
		}
	}
	return fit, api.OK
}

// fields answer, when they are asked, the headers that fit a rule in one field. The last field stands first: so what is laid of some fields stands in the diagram of what is laid of more, and takes no room of its own.
func fields(s *rel.Space, r api.Rule) []func() (int, api.Errno) {
	numbers := func(f rel.Field, x api.Span) func() (int, api.Errno) {
		return func() (int, api.Errno) { return s.Numbers(f, []api.Span{x}) }
	}
	prefix := func(f rel.Field, p api.Prefix) func() (int, api.Errno) {
		return func() (int, api.Errno) { return s.Prefix(f, p) }
	}
	return []func() (int, api.Errno){
		numbers(rel.DstPort, r.DstPorts),
		numbers(rel.SrcPort, r.SrcPorts),
		numbers(rel.Proto, protos(r)),
		prefix(rel.Dst, r.Dst),
		prefix(rel.Src, r.Src),
	}
}

// protos are the protocols that fit a rule.
func protos(r api.Rule) api.Span {
	if r.Proto == anyProto {
		return api.Span{Lo: 0, Hi: topProto}
	}
	return api.Span{Lo: uint32(r.Proto), Hi: uint32(r.Proto)}
}
