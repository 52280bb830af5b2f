package spf

import (
	"slices"

	"waymark/addr"
	"waymark/api"
)

// mostNumber is the greatest Metric or Tag.
const mostNumber = 1 << 24

// external is what an instance takes over, and the instance's number.
type external struct {
	api.Taken
	by int
}

// price is what it costs to go by an external: From, the route's Metric, and what parts those of one Metric.
type price [3]int

// externals are what is taken over, if all of it may be.
func (n *net) externals(l []api.Taken) ([]external, bool) {
	at := map[[2]int]int{}
	for i, x := range n.instances {
		at[[2]int{x.Device, x.Instance}] = i
	}
	var list []external
	for _, x := range l {
		by, is := at[[2]int{x.Device, x.Instance}]
		if !is || !may(x) {
			return nil, false
		}
		list = append(list, external{x, by})
	}
	return list, true
}

// may tells of what is taken over whether it may be, whoever takes it.
func may(x api.Taken) bool {
	number := func(n int) bool { return n >= 0 && n <= mostNumber }
	return addr.Check(x.Prefix) == api.OK && number(x.Metric) && number(x.Tag) && (x.Type == 1 || x.Type == 2)
}

// outside makes the routes to what is taken over.
func (m *maker) outside(ext []external) {
	to := map[int][]course{}
	for _, x := range ext {
		if _, is := to[x.by]; !is {
			to[x.by] = m.net.courses(m.net.atInstance(x.by))
		}
	}
	for i := range m.net.instances {
		m.taken(i, func(visit func(x external, p price, c course)) {
			for _, x := range ext {
				c := to[x.by][i]
				if _, is := m.has[want{i, x.Prefix}]; !is && x.by != i && c.pair != none {
					visit(x, x.price(c.pair), c)
				}
			}
		})
	}
}

// taken makes an instance's routes to what others take over, each of which it is handed with what it costs and by which hops.
func (m *maker) taken(i int, each func(visit func(x external, p price, c course))) {
	type best struct {
		price price
		tag   int
	}
	least := map[api.Prefix]best{}
	each(func(x external, p price, _ course) {
		b, is := least[x.Prefix]
		switch {
		case !is || p.less(b.price):
			b = best{p, x.Tag}
		case p == b.price:
			b.tag = min(b.tag, x.Tag)
		}
		least[x.Prefix] = b
	})
	each(func(x external, p price, c course) {
		if b := least[x.Prefix]; p == b.price {
			m.add(i, api.Route{Prefix: x.Prefix, From: uint8(p[0]), Metric: p[1], Tag: b.tag}, c)
		}
	})
}

// price is what it costs to go by an external, where this is what it costs to be at who takes it over.
func (x external) price(to pair) price {
	if x.Type == 1 {
		return price{int(api.External1), to[1] + x.Metric}
	}
	return price{int(api.External2), x.Metric, to[1]}
}

// less tells whether a price is lesser than another one.
func (p price) less(q price) bool { return slices.Compare(p[:], q[:]) < 0 }
