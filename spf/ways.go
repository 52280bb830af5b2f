package spf

import (
	"slices"

	"waymark/api"
)

// far is more than any way costs: one that costs the least leaves no spot twice, and is at no more spots than there are interfaces.
const far = 1 << 30

// costs are what it costs to be somewhere, from each spot. There are no more spots than interfaces.
type costs [api.MaxDevices * api.MaxIfaces]int32

// hop is by what a way leaves an instance.
type hop struct {
	iface string
	addr  api.Addr
}

// ways are the ways in its area to a spot: what they cost from each spot, and, once they were asked for, their first hops.
type ways struct {
	costs costs
	hops  [][]hop
}

// nowhere are the costs of being where nobody comes.
func nowhere() costs {
	var c costs
	for i := range c {
		c[i] = far
	}
	return c
}

// to are the ways to a spot.
func (n *net) to(s int) *ways {
	w, is := n.known[s]
	if !is {
		w = &ways{costs: nowhere()}
		w.costs[s] = 0
		n.settle(n.spots[s].area, &w.costs)
		n.known[s] = w
	}
	return w
}

// hopsTo are the first hops, from each spot, of the ways to one.
func (n *net) hopsTo(s int) [][]hop {
	w := n.to(s)
	if w.hops == nil {
		w.hops = n.hops(n.spots[s].area, &w.costs)
	}
	return w.hops
}

// settle lets costs in an area fall along its links, round by round, until none falls.
func (n *net) settle(area int, c *costs) {
	for {
		last := *c
		n.links(area, c, func(_ []*port, x, y *port) {
			c[x.spot] = min(c[x.spot], int32(x.Cost)+c[y.spot])
		})
		if *c == last {
			return
		}
	}
}

// hops are the first hops, from each spot, of the ways in an area that cost so much.
func (n *net) hops(area int, c *costs) [][]hop {
	list := make([][]hop, len(n.spots))
	even := map[*port][]*port{} // those of a wire from where it costs as much as from this one
	n.links(area, c, func(wire []*port, x, y *port) {
		if c[x.spot] != int32(x.Cost)+c[y.spot] {
			return
		}
		if even[y] == nil {
			even[y] = slices.DeleteFunc(slices.Clone(wire), func(z *port) bool { return c[z.spot] != c[y.spot] })
		}
		for _, z := range even[y] {
			if x.linked(z) {
				list[x.spot] = append(list[x.spot], hop{x.Name, z.Addr})
			}
		}
	})
	return list
}

// links goes through the interfaces at an area's wires, each with that one linked with it from where it costs the least: by no other one a cost falls further. Wires from where nobody comes anywhere are left out.
func (n *net) links(area int, c *costs, visit func(wire []*port, x, y *port)) {
	for _, w := range n.wires[area] {
		first, second := nearest(w, c)
		if c[first.spot] == far {
			continue
		}
		for _, x := range w {
			if x.linked(first) {
				visit(w, x, first)
			} else {
				visit(w, x, second)
			}
		}
	}
}

// nearest are the interface of a wire from where it costs the least, and that one of those linked with it.
func nearest(w []*port, c *costs) (*port, *port) {
	first := w[0]
	var second *port
	for _, p := range w[1:] {
		switch {
		case c[p.spot] < c[first.spot]:
			if p.linked(first) {
				second = first
			}
			first = p
		case p.linked(first) && (second == nil || c[p.spot] < c[second.spot]):
			second = p
		}
	}
	return first, second
}
