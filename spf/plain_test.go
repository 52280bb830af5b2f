package spf_test

import (
	"cmp"
	"slices"

	"waymark/addr"
	"waymark/api"
	"waymark/spf"
)

// none is what a way costs that is not there.
const none = 1 << 40

// plain reckons as S3 says it, word for word, over a snapshot.
type plain struct {
	l     []api.Device
	all   []spf.Instance
	alive [][]api.Iface             // of each instance's device and VRF
	ports [][]api.Iface             // of each instance
	links map[[3]int][][2]api.Iface // from an instance to another one in an area
	ways  map[int][][]int           // by areas: the least ways between instances
}

// thing is somewhere to be: what it costs instances to have it in an area, and what borders tell of it.
type thing struct {
	has  map[[2]int]int
	told map[[2]int]int
}

func newPlain(l []api.Device) *plain {
	p := &plain{l: l, links: map[[3]int][][2]api.Iface{}, ways: map[int][][]int{}}
	for d, device := range l {
		for _, vrf := range append([]string{""}, device.VRFs...) {
			for at, o := range device.OSPF {
				if o.VRF == vrf {
					p.put(spf.Instance{Device: d, Instance: at, VRF: vrf})
				}
			}
		}
	}
	for i := range p.all {
		for _, area := range p.all[i].Areas {
			for j := range p.all {
				p.links[[3]int{i, j, area}] = p.between(i, j, area)
			}
		}
	}
	for i := range p.all {
		for _, area := range p.all[i].Areas {
			if p.ways[area] == nil {
				p.ways[area] = p.least(area)
			}
		}
	}
	return p
}

// put puts an instance behind the others.
func (p *plain) put(x spf.Instance) {
	var alive, ports []api.Iface
	for _, i := range p.l[x.Device].Ifaces {
		if i.Down || i.Bits == 0 || i.VRF != x.VRF {
			continue
		}
		alive = append(alive, i)
		if i.Area < 0 {
			continue
		}
		ports = append(ports, i)
		if !slices.Contains(x.Areas, i.Area) {
			x.Areas = append(x.Areas, i.Area)
		}
	}
	slices.Sort(x.Areas)
	x.Border = slices.Contains(x.Areas, 0) && len(x.Areas) >= 2
	p.all, p.alive, p.ports = append(p.all, x), append(p.alive, alive), append(p.ports, ports)
}

// in tells whether an instance has an interface in an area.
func (p *plain) in(i, area int) bool { return slices.Contains(p.all[i].Areas, area) }

func subnet(x api.Iface) api.Prefix {
	size := uint64(1) << (32 - x.Bits)
	return api.Prefix{Addr: api.Addr(uint64(x.Addr) / size * size), Bits: x.Bits}
}

// between are the pairs of interfaces by which ways in an area lead from one instance to another one.
func (p *plain) between(i, j, area int) [][2]api.Iface {
	var list [][2]api.Iface
	if p.all[i].Device == p.all[j].Device {
		return nil
	}
	for _, x := range p.ports[i] {
		for _, y := range p.ports[j] {
			if x.Area == area && y.Area == area && !x.Passive && !y.Passive && subnet(x) == subnet(y) && x.Bits <= 31 {
				list = append(list, [2]api.Iface{x, y})
			}
		}
	}
	return list
}

// least are the least ways in an area, by going over all instances that may stand between two.
func (p *plain) least(area int) [][]int {
	ways := make([][]int, len(p.all))
	for i := range ways {
		ways[i] = slices.Repeat([]int{none}, len(p.all))
		for j := range ways {
			for _, link := range p.links[[3]int{i, j, area}] {
				ways[i][j] = min(ways[i][j], link[0].Cost)
			}
		}
		if p.in(i, area) {
			ways[i][i] = 0
		}
	}
	for k := range ways {
		for i := range ways {
			for j := range ways {
				ways[i][j] = min(ways[i][j], ways[i][k]+ways[k][j])
			}
		}
	}
	return ways
}

// subnet is a subnet as somewhere to be.
func (p *plain) subnet(s api.Prefix) thing {
	x := thing{map[[2]int]int{}, map[[2]int]int{}}
	for i, ports := range p.ports {
		for _, port := range ports {
			if k := [2]int{i, port.Area}; subnet(port) == s {
				x.has[k] = min(cmp.Or(x.has[k], none), port.Cost)
			}
		}
	}
	return x
}

// instance is an instance as somewhere to be.
func (p *plain) instance(i int) thing {
	x := thing{map[[2]int]int{}, map[[2]int]int{}}
	for _, area := range p.all[i].Areas {
		x.has[[2]int{i, area}] = 0
	}
	return x
}

// intra is what a thing costs an instance in an area.
func (p *plain) intra(i, area int, x thing) int {
	low := none
	for k, has := range x.has {
		if k[1] == area && p.in(i, area) && p.ways[area][i][k[0]] < none {
			low = min(low, p.ways[area][i][k[0]]+has)
		}
	}
	return low
}

// told is what a border tells of a thing into an area.
func (p *plain) told(b, area int, x thing) int {
	if told, is := x.told[[2]int{b, area}]; is {
		return told
	}
	low := none
	for _, other := range p.all[b].Areas {
		if other != area {
			low = min(low, p.intra(b, other, x))
		}
	}
	if low == none && area != 0 {
		low = p.inter(b, 0, x)
	}
	x.told[[2]int{b, area}] = low
	return low
}

// inter is what a thing costs an instance through an area.
func (p *plain) inter(i, area int, x thing) int {
	low := none
	for b, border := range p.all {
		if border.Border && b != i && p.in(i, area) && p.in(b, area) && p.ways[area][i][b] < none {
			low = min(low, p.ways[area][i][b]+p.told(b, area, x))
		}
	}
	return low
}

// looks are the areas in which an instance looks for Inter.
func (p *plain) looks(i int) []int {
	if p.in(i, 0) {
		return []int{0}
	}
	return p.all[i].Areas
}

// cost is what a thing costs an instance, and how it comes there (0 if it does not).
func (p *plain) cost(i int, x thing) (int, uint8) {
	low := none
	for _, area := range p.all[i].Areas {
		low = min(low, p.intra(i, area, x))
	}
	if low < none {
		return low, api.Intra
	}
	for _, area := range p.looks(i) {
		low = min(low, p.inter(i, area, x))
	}
	if low < none {
		return low, api.Inter
	}
	return 0, 0
}

// hops are the first hops of an instance's ways that cost the least: by links behind which the rest costs just what is left.
func (p *plain) hops(i int, x thing) []api.Route {
	low, from := p.cost(i, x)
	areas := p.all[i].Areas
	if from == api.Inter {
		areas = p.looks(i)
	}
	var list []api.Route
	for _, area := range areas {
		for j := range p.all {
			for _, link := range p.links[[3]int{i, j, area}] {
				if link[0].Cost+p.rest(i, j, area, from, x) == low {
					list = append(list, api.Route{Iface: link[0].Name, Hop: link[1].Addr})
				}
			}
		}
	}
	return list
}

// rest is what a way of i costs from j on.
func (p *plain) rest(i, j, area int, from uint8, x thing) int {
	low := none
	for k, y := range p.all {
		end := none
		if has, is := x.has[[2]int{k, area}]; from == api.Intra && is {
			end = has
		}
		if from == api.Inter && y.Border && k != i && p.in(k, area) {
			end = p.told(k, area, x)
		}
		low = min(low, p.ways[area][j][k]+end)
	}
	return low
}

// subnets are those of all instances' interfaces, in order.
func (p *plain) subnets() []api.Prefix {
	var list []api.Prefix
	for _, ports := range p.ports {
		for _, x := range ports {
			list = append(list, subnet(x))
		}
	}
	slices.SortFunc(list, addr.Cmp)
	return slices.Compact(list)
}

// costs are what all subnets cost an instance.
func (p *plain) costs(i int) []spf.Cost {
	var list []spf.Cost
	for _, s := range p.subnets() {
		if low, from := p.cost(i, p.subnet(s)); from > 0 {
			list = append(list, spf.Cost{Prefix: s, From: from, Metric: low})
		}
	}
	return list
}

// routes are an instance's routes, each once, in no order.
func (p *plain) routes(i int, ext []api.Taken) []api.Route {
	var list []api.Route
	held := map[api.Prefix]bool{}
	for _, x := range p.alive[i] {
		held[subnet(x)] = true
	}
	add := func(r api.Route, hops []api.Route) {
		held[r.Prefix] = true
		r.Dist = map[uint8]int{api.Intra: 10, api.Inter: 10, api.External1: 150, api.External2: 150}[r.From]
		if p.l[p.all[i].Device].Kind == api.Flat {
			r.Dist = 110
		}
		for _, h := range hops {
			r.Iface, r.Hop = h.Iface, h.Hop
			if !slices.Contains(list, r) {
				list = append(list, r)
			}
		}
	}
	for _, s := range p.subnets() {
		x := p.subnet(s)
		if low, from := p.cost(i, x); from > 0 && !held[s] {
			add(api.Route{Prefix: s, From: from, Metric: low}, p.hops(i, x))
		}
	}
	for _, kind := range []uint8{1, 2} {
		for _, x := range ext {
			if !held[x.Prefix] {
				if r, hops := p.external(i, x.Prefix, kind, ext); len(hops) > 0 {
					add(r, hops)
				}
			}
		}
	}
	return list
}

// external is an instance's route to what others take over of a prefix, with a type.
func (p *plain) external(i int, prefix api.Prefix, kind uint8, ext []api.Taken) (api.Route, []api.Route) {
	r := api.Route{Prefix: prefix, From: api.External1 + kind - 1, Metric: none}
	ways := none
	var hops []api.Route
	for _, x := range ext {
		j := slices.IndexFunc(p.all, func(y spf.Instance) bool { return y.Device == x.Device && y.Instance == x.Instance })
		low, from := p.cost(i, p.instance(j))
		if x.Prefix != prefix || x.Type != kind || i == j || from == 0 {
			continue
		}
		metric, way := x.Metric+low, 0
		if kind == 2 {
			metric, way = x.Metric, low
		}
		c := cmp.Or(cmp.Compare(metric, r.Metric), cmp.Compare(way, ways))
		if c < 0 {
			r.Metric, r.Tag, ways, hops = metric, x.Tag, way, nil
		}
		if c <= 0 {
			r.Tag = min(r.Tag, x.Tag)
			hops = append(hops, p.hops(i, p.instance(j))...)
		}
	}
	return r, hops
}
