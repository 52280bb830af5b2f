package spf

import (
	"maps"

	"waymark/api"
	"waymark/routes"
)

// maker makes the instances' routes.
type maker struct {
	net    *net
	has    map[want]struct{} // for what no external is looked at
	routes [][]api.Route
}

// tables are the instances' routes, where this is all that they take over.
func (n *net) tables(ext []external) []api.Table {
	m := &maker{net: n, has: maps.Clone(n.own), routes: make([][]api.Route, len(n.instances))}
	m.inside()
	m.outside(ext)
	list := make([]api.Table, len(n.instances))
	for i, x := range n.instances {
		list[i] = api.Table{Device: x.Device, VRF: x.VRF, Routes: routes.Sort(m.routes[i])}
	}
	return list
}

// inside makes the routes to subnets.
func (m *maker) inside() {
	m.net.subnets(func(subnet api.Prefix, in offers) {
		for i, c := range m.net.courses(in) {
			k := want{i, subnet}
			if _, is := m.has[k]; is || c.pair == none {
				continue
			}
			m.has[k] = struct{}{}
			m.add(i, api.Route{Prefix: subnet, From: uint8(c.pair[0]), Metric: c.pair[1]}, c)
		}
	})
}

// add adds to an instance's routes one for each first hop of a course.
func (m *maker) add(i int, r api.Route, c course) {
	r.Dist = distance(m.net.devices[m.net.instances[i].Device].Kind, r.From)
	for _, h := range m.net.firstHops(c) {
		r.Iface, r.Hop = h.iface, h.addr
		m.routes[i] = append(m.routes[i], r)
	}
}

// distance is the Dist of a route of a device of a kind.
func distance(kind, from uint8) int {
	switch {
	case kind == api.Flat:
		return 110
	case from == api.Intra || from == api.Inter:
		return 10
	}
	return 150
}
