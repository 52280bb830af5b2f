package trie

import (
	"waymark/addr"
	"waymark/api"
)

// Cover are the fewest prefixes of the same addresses.
func Cover(l []api.Prefix) []api.Prefix {
	t := New[struct{}]()
	for _, p := range l {
		// One that may not be has no addresses: Put refuses it, and it stays out.
		t.Put(p, struct{}{})
	}
	return t.root.cover(nil)
}

// cover puts behind a list the fewest prefixes of the addresses below a node.
func (n *node[V]) cover(list []api.Prefix) []api.Prefix {
	if n == nil {
		return list
	}
	if n.value != nil {
		return append(list, n.prefix)
	}
	before := len(list)
	list = n.below[1].cover(n.below[0].cover(list))
	if whole(n.prefix, list[before:]) {
		list = append(list[:before], n.prefix)
	}
	return list
}

// whole tells whether a list is a prefix's two halves.
func whole(p api.Prefix, list []api.Prefix) bool {
	low, high, e := addr.Halves(p)
	return e == api.OK && len(list) == 2 && list[0] == low && list[1] == high
}
