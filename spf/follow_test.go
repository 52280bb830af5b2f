package spf_test

import (
	"math/rand"
	"reflect"
	"slices"
	"testing"

	"waymark/api"
	"waymark/spf"
	"waymark/topo"
)

// net is what the promises that follow lean on: the interfaces of instances, and the links of each two of an area.
type net struct {
	x     *topo.Topo
	all   []spf.Instance
	ports map[int][]api.Iface
	links map[int][]link
}

// link is a link of an instance to another one.
type link struct {
	from, to api.Iface
	far      int
}

// netOf finds a topo's, by what topo tells.
func netOf(x *topo.Topo) net {
	n := net{x: x, all: spf.Instances(x), ports: map[int][]api.Iface{}, links: map[int][]link{}}
	whose := func(p api.Place) (int, api.Iface) {
		y, _ := x.Iface(p)
		return slices.IndexFunc(n.all, func(i spf.Instance) bool { return i.Device == p.Device && i.VRF == y.VRF }), y
	}
	for d, device := range x.Devices() {
		for k := range device.Ifaces {
			i, y := whose(api.Place{Device: d, Iface: k})
			if i < 0 || y.Area < 0 || !topo.Alive(y) {
				continue
			}
			n.ports[i] = append(n.ports[i], y)
			beside, _ := x.Linked(api.Place{Device: d, Iface: k})
			for _, p := range beside {
				j, z := whose(p)
				if j >= 0 && z.Area == y.Area && !y.Passive && !z.Passive {
					n.links[i] = append(n.links[i], link{y, z, j})
				}
			}
		}
	}
	return n
}

// nearer puts a cost of a subnet in, if it is less than what is there.
func nearer(by map[api.Prefix]int, s api.Prefix, cost int) {
	if old, is := by[s]; !is || cost < old {
		by[s] = cost
	}
}

// own are the subnets of the alive interfaces of an instance's VRF.
func (n net) own(i int) map[api.Prefix]bool {
	own := map[api.Prefix]bool{}
	for _, y := range n.x.Devices()[n.all[i].Device].Ifaces {
		if topo.Alive(y) && y.VRF == n.all[i].VRF {
			own[topo.Subnet(y)] = true
		}
	}
	return own
}

// next are the routes, by those fields that P18.3 speaks of, of an instance's links that make its costs so much.
func (n net) next(i int, costs []map[api.Prefix]int) map[api.Route]int {
	list := map[api.Route]int{}
	own := n.own(i)
	for _, k := range n.links[i] {
		for s, rest := range costs[k.far] {
			if !own[s] && k.from.Cost+rest == costs[i][s] {
				list[api.Route{Prefix: s, Metric: costs[i][s], Iface: k.from.Name, Hop: k.to.Addr}] = 1
			}
		}
	}
	return list
}

// P18.3: in the area 0 alone a subnet costs the least of the own interfaces and of what links lead to, and routes go by just those.
func TestLeast(t *testing.T) {
	r := rand.New(rand.NewSource(1803))
	routes, subnets := 0, 0
	for round := range 250 {
		n := netOf(made(t, flatten(drawn(r, 2+round%7))))
		all := make([]map[api.Prefix]int, len(n.all))
		for i := range all {
			all[i] = map[api.Prefix]int{}
			for _, c := range costs(t, n.x, i) {
				all[i][c.Prefix] = c.Metric
				if c.From != api.Intra {
					t.Error(c)
				}
			}
		}
		for i := range all {
			want := map[api.Prefix]int{}
			for _, y := range n.ports[i] {
				nearer(want, topo.Subnet(y), y.Cost)
			}
			for _, k := range n.links[i] {
				for s, c := range all[k.far] {
					nearer(want, s, k.from.Cost+c)
				}
			}
			if !reflect.DeepEqual(all[i], want) {
				t.Error(i, all[i], want)
			}
			made := map[api.Route]int{}
			for _, y := range table(t, n.x, i) {
				made[api.Route{Prefix: y.Prefix, Metric: y.Metric, Iface: y.Iface, Hop: y.Hop}]++
			}
			if next := n.next(i, all); !reflect.DeepEqual(made, next) {
				t.Error(i, made, next)
			}
			routes += len(made)
			subnets += len(all[i])
		}
	}
	if routes < 5000 || subnets < 5000 {
		t.Error(routes, subnets)
	}
}

// P18.4: ways in an area lead both ways, at the same costs where all interfaces cost the same; what has a cost is Intra for some instance.
func TestBothWays(t *testing.T) {
	r := rand.New(rand.NewSource(1804))
	within := 0
	for round := range 150 {
		l := drawn(r, 2+round%7)
		if round%2 == 0 {
			l = flatten(l)
		}
		for _, same := range []bool{false, true} {
			for _, d := range l {
				for i := range d.Ifaces {
					if same {
						d.Ifaces[i].Cost = 7
					}
				}
			}
			x := made(t, l)
			all := spf.Instances(x)
			has := map[api.Prefix]int{}
			intra := map[api.Prefix]int{}
			for i := range all {
				for k := range all {
					there, back := way(t, x, i, k), way(t, x, k, i)
					if (there.From == api.Intra) != (back.From == api.Intra) || round%2 == 0 && there.From != back.From {
						t.Error(i, k, there, back)
					}
					if there.From == api.Intra && i != k {
						within++
						if same && there != back {
							t.Error(i, k, there, back)
						}
					}
				}
				for _, c := range costs(t, x, i) {
					has[c.Prefix]++
					if c.From == api.Intra {
						intra[c.Prefix]++
					}
				}
			}
			for p := range has {
				if intra[p] == 0 {
					t.Error(p)
				}
			}
		}
	}
	if within < 2000 {
		t.Error(within)
	}
}

// all is what all subnets cost each instance, and what the ways between them cost.
type all struct {
	costs map[int]map[api.Prefix]spf.Cost
	ways  map[[2]int]spf.Cost
}

func allOf(t *testing.T, l []api.Device) all {
	x := made(t, l)
	a := all{map[int]map[api.Prefix]spf.Cost{}, map[[2]int]spf.Cost{}}
	count := len(spf.Instances(x))
	for i := range count {
		a.costs[i] = map[api.Prefix]spf.Cost{}
		for _, c := range costs(t, x, i) {
			a.costs[i][c.Prefix] = c
		}
		for k := range count {
			if c := way(t, x, i, k); c != (spf.Cost{}) {
				a.ways[[2]int{i, k}] = c
			}
		}
	}
	return a
}

// P18.5: a cost that is raised lets none fall, come or go; an interface made Passive lets no way come.
func TestDearer(t *testing.T) {
	r := rand.New(rand.NewSource(1805))
	rose, gone := 0, 0
	for round := range 150 {
		l := drawn(r, 2+round%7)
		before := allOf(t, l)
		d := &l[r.Intn(len(l))]
		if len(d.Ifaces) == 0 {
			continue
		}
		x := &d.Ifaces[r.Intn(len(d.Ifaces))]
		old := x.Cost
		x.Cost += 1 + r.Intn(100)
		dearer := allOf(t, l)
		for i, by := range before.costs {
			if len(dearer.costs[i]) != len(by) {
				t.Error(i, by, dearer.costs[i])
			}
			for s, c := range by {
				now := dearer.costs[i][s]
				if now.From != c.From || now.Metric < c.Metric {
					t.Error(i, s, c, now)
				}
				rose += now.Metric - c.Metric
			}
		}
		if len(before.ways) != len(dearer.ways) {
			t.Error(before.ways, dearer.ways)
		}
		for k, c := range before.ways {
			if now := dearer.ways[k]; now.From != c.From || now.Metric < c.Metric {
				t.Error(k, c, now)
			}
		}
		x.Cost, x.Passive = old, true
		passive := allOf(t, l)
		for k, c := range passive.ways {
			if was, is := before.ways[k]; !is || was.From > c.From || was.From == c.From && was.Metric > c.Metric {
				t.Error(k, c, was)
			}
		}
		gone += len(before.ways) - len(passive.ways)
	}
	if rose < 1000 || gone < 100 {
		t.Error(rose, gone)
	}
}

// P18.6: in whatever order the devices, and what their form puts in order, and what is taken over, stand.
func TestNoOrder(t *testing.T) {
	r := rand.New(rand.NewSource(1806))
	for round := range 200 {
		l := drawn(r, 2+round%7)
		x := made(t, l)
		ext := drawnTaken(r, newPlain(x.Devices()))
		want := answer(x, ext)
		l = copied(l)
		r.Shuffle(len(l), func(i, k int) { l[i], l[k] = l[k], l[i] })
		for i := range l {
			f := l[i].Ifaces
			r.Shuffle(len(f), func(i, k int) { f[i], f[k] = f[k], f[i] })
			slices.Reverse(l[i].VRFs)
		}
		r.Shuffle(len(ext), func(i, k int) { ext[i], ext[k] = ext[k], ext[i] })
		if got := answer(made(t, l), ext); !reflect.DeepEqual(got, want) {
			t.Fatal(got, want)
		}
		if got := answer(x, ext); !reflect.DeepEqual(got, want) {
			t.Fatal(got, want)
		}
	}
}
