package trie

import (
	"iter"

	"waymark/addr"
	"waymark/api"
)

// node is what some prefixes have in common, and where they part: below it, by the first bit behind, those with a 0 and those with a 1. Its value is nil if it only joins two.
// A node never changes once it is made, so that an iterator goes over what was there when it was given, whatever is put or dropped since.
type node[V any] struct {
	prefix api.Prefix
	value  *V
	below  [2]*node[V]
}

// side tells below which side of a prefix of so many bits an address is. Below one of 32 bits nothing is: the shift makes 0 of all.
func side(a api.Addr, bits int) int {
	return int(a << bits >> 31)
}

// with is the node with a prefix's value below it, or in it.
func (n *node[V]) with(p api.Prefix, v *V) *node[V] {
	if n == nil {
		return &node[V]{prefix: p, value: v}
	}
	// No error: both may be, for Put lets in no others.
	common, _ := addr.Common(n.prefix, p)
	made := node[V]{prefix: common}
	if common == n.prefix {
		made = *n
	} else {
		made.below[side(n.prefix.Addr, common.Bits)] = n
	}
	if common == p {
		made.value = v
	} else {
		s := side(p.Addr, common.Bits)
		made.below[s] = made.below[s].with(p, v)
	}
	return &made
}

// without is the node without a prefix's value.
func (n *node[V]) without(p api.Prefix) *node[V] {
	if n == nil {
		return nil
	}
	made := *n
	if n.prefix == p {
		made.value = nil
	} else {
		s := side(p.Addr, n.prefix.Bits)
		made.below[s] = made.below[s].without(p)
	}
	// A node with neither a value nor two to join would only lengthen the paths.
	low, high := made.below[0], made.below[1]
	switch {
	case made.value != nil || low != nil && high != nil:
		return &made
	case low != nil:
		return low
	}
	return high
}

// under is the node over all that is in a prefix.
func (n *node[V]) under(p api.Prefix) *node[V] {
	for n != nil && !addr.Within(n.prefix, p) {
		n = n.below[side(p.Addr, n.prefix.Bits)]
	}
	return n
}

// all goes over the values, in order, along the paths that lead on.
func (n *node[V]) all(leads func(api.Prefix) bool) iter.Seq2[api.Prefix, V] {
	return func(yield func(api.Prefix, V) bool) {
		n.visit(leads, yield)
	}
}

// visit goes over the paths below a node, and tells whether to go on.
func (n *node[V]) visit(leads func(api.Prefix) bool, yield func(api.Prefix, V) bool) bool {
	if n == nil || !leads(n.prefix) {
		return true
	}
	if n.value != nil && !yield(n.prefix, *n.value) {
		return false
	}
	return n.below[0].visit(leads, yield) && n.below[1].visit(leads, yield)
}
