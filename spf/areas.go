package spf

import (
	"maps"
	"slices"

	"waymark/addr"
	"waymark/api"
	"waymark/topo"
)

// offers are what it costs to be somewhere for who is at these spots already.
type offers map[int]int32

// pair is what it costs an instance to be somewhere: From, and how much.
type pair [2]int

// none stands behind all pairs.
var none = pair{far, far}

// course is what it costs an instance to be somewhere, and by which ways: from which spot to which.
type course struct {
	pair pair
	ways [][2]int
}

// add adds an offer, if it is the least one at its spot so far.
func (o offers) add(s int, cost int32) {
	if old, is := o[s]; cost < far && (!is || cost < old) {
		o[s] = cost
	}
}

// atInstance are the offers where an instance is.
func (n *net) atInstance(i int) offers {
	o := offers{}
	for _, s := range n.of[i] {
		o.add(s, 0)
	}
	return o
}

// subnets goes through all subnets, by rising prefixes, each with the offers where it is.
func (n *net) subnets(visit func(subnet api.Prefix, in offers)) {
	by := map[api.Prefix]offers{}
	for _, p := range n.ports {
		s := topo.Subnet(p.Iface)
		if by[s] == nil {
			by[s] = offers{}
		}
		by[s].add(p.spot, int32(p.Cost))
	}
	for _, s := range slices.SortedFunc(maps.Keys(by), addr.Cmp) {
		visit(s, by[s])
	}
}

// courses are those of all instances to where these offers are.
func (n *net) courses(in offers) []course {
	list := slices.Repeat([]course{{pair: none}}, len(n.instances))
	n.take(list, api.Intra, in)
	n.take(list, api.Inter, n.told(in))
	return list
}

// take has each instance take what costs it the least, of what it has and what these offers cost it.
func (n *net) take(list []course, from uint8, o offers) {
	for s, cost := range o {
		to := n.to(s)
		for _, at := range n.within[n.spots[s].area] {
			x := n.spots[at]
			if to.costs[at] == far || from == api.Inter && !x.looks {
				continue
			}
			c, p := &list[x.instance], pair{int(from), int(to.costs[at] + cost)}
			if p.less(c.pair) {
				*c = course{pair: p}
			}
			if p == c.pair {
				c.ways = append(c.ways, [2]int{at, s})
			}
		}
	}
}

// firstHops are those of a course's ways.
func (n *net) firstHops(c course) []hop {
	var list []hop
	for _, w := range c.ways {
		list = append(list, n.hopsTo(w[1])[w[0]]...)
	}
	return list
}

// told are the offers that the borders tell into their areas, of offers in them: into the area 0 first, for what they tell into the others may come out of it.
func (n *net) told(in offers) offers {
	inside, told := n.spread(in), offers{}
	for _, spots := range n.borders {
		told.add(spots[0], least(&inside, spots, spots[0]))
	}
	zero := n.spread(told)
	for _, spots := range n.borders {
		for _, s := range spots[1:] {
			cost := least(&inside, spots, s)
			if cost == far {
				// By other borders, unless this one alone has it, in this very area: but who would hear that here has it in the area, and does not look further.
				cost = zero[spots[0]]
			}
			told.add(s, cost)
		}
	}
	return told
}

// spread is what offers cost from each spot.
func (n *net) spread(o offers) costs {
	c := nowhere()
	for s, cost := range o {
		to := n.to(s)
		for _, at := range n.within[n.spots[s].area] {
			c[at] = min(c[at], to.costs[at]+cost)
		}
	}
	return c
}

// least is the least cost at some spots but one.
func least(c *costs, spots []int, but int) int32 {
	low := int32(far)
	for _, s := range spots {
		if s != but {
			low = min(low, c[s])
		}
	}
	return low
}

// less tells whether a pair stands ahead of another one.
func (p pair) less(q pair) bool { return slices.Compare(p[:], q[:]) < 0 }

// cost is a pair as it is told, of a prefix.
func (p pair) cost(prefix api.Prefix) Cost {
	return Cost{Prefix: prefix, From: uint8(p[0]), Metric: p[1]}
}
