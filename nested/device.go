package nested

import (
	"waymark/api"
	"waymark/tree"
)

// device is one that is read: for each kind of block a method takes one of its statements. What a block within others speaks of is the last thing of its list.
type device struct{ api.Device }

// told is what merged statements say.
func told(l []tree.Node) (api.Device, api.Pos, api.Errno) {
	d := device{api.Device{Kind: api.Nested}}
	if _, pos, e := read(l, d.inText); e != api.OK {
		return api.Device{}, pos, e
	}
	if d.Name == "" {
		return api.Device{}, api.Pos{}, api.ErrNone
	}
	return d.Device, api.Pos{}, api.OK
}

// last is the last thing of a list.
func last[T any](list []T) *T { return &list[len(list)-1] }

func (d *device) inText(s *statement) {
	switch s.Word() {
	case "system":
		s.block(d.inSystem)
	case "instances":
		s.block(d.inInstances)
	case "interfaces":
		s.block(d.inInterfaces)
	case "firewall":
		s.block(d.inFirewall)
	case "nat":
		s.block(d.inNAT)
	case "routes":
		s.block(d.inRoutes)
	case "policy":
		s.block(d.inPolicy)
	case "protocols":
		s.block(d.inProtocols)
	default:
		s.Refuse(api.ErrWord)
	}
}

func (d *device) inSystem(s *statement) {
	s.One("host-name")
	d.Name = s.Name()
	s.once("host-name")
}

func (d *device) inInstances(s *statement) {
	d.VRFs = append(d.VRFs, s.Name())
	s.leaf()
}

func (d *device) inInterfaces(s *statement) {
	d.Ifaces = append(d.Ifaces, api.Iface{Name: s.Name(), Area: none, Cost: anyCost})
	s.block(d.inIface)
}

func (d *device) inIface(s *statement) {
	i := last(d.Ifaces)
	what := s.Word()
	switch what {
	case "instance":
		i.VRF = s.Name()
	case "address":
		i.Addr, i.Bits = s.host()
	case "filter":
		what = s.bind(i)
	case "nat":
		i.Side = s.side()
	case "area":
		i.Area = s.Number(0, topNumber)
	case "metric":
		i.Cost = s.Number(1, topCost)
	case "passive":
		i.Passive = true
	case "disable":
		i.Down = true
	default:
		s.Refuse(api.ErrWord)
	}
	s.once(what)
}

// bind takes off in which direction a filter stands, and its name, and tells what may stand once.
func (s *statement) bind(i *api.Iface) string {
	way := s.One("input", "output")
	name := s.Name()
	if way == "input" {
		i.In = name
	} else {
		i.Out = name
	}
	return "filter " + way
}

// side takes an interface's side off.
func (s *statement) side() uint8 {
	if s.One("inside", "outside") == "inside" {
		return api.Inside
	}
	return api.Outside
}

func (d *device) inNAT(s *statement) {
	x := api.Rewrite{Dest: s.One("source", "destination") == "destination", Filter: s.Name()}
	s.One("to")
	x.To = s.Addr()
	s.leaf()
	d.Rewrites = append(d.Rewrites, x)
}

func (d *device) inRoutes(s *statement) {
	s.One("route")
	x := api.Static{Prefix: s.Prefix()}
	x.Discard = s.One("next-hop", "discard") == "discard"
	if !x.Discard {
		x.Via = s.Hop()
	}
	x.VRF = s.Named("instance")
	x.Dist = s.Option("preference", 1, topDist, anyDist)
	x.Tag = s.Option("tag", 0, topNumber, 0)
	s.leaf()
	d.Statics = append(d.Statics, x)
}
