package flat

import (
	"waymark/addr"
	"waymark/api"
)

// last is the last thing of a list: the one whose block is open.
func last[T any](list []T) *T { return &list[len(list)-1] }

// inIface reads a line of an interface.
func (r *reader) inIface() {
	i := last(r.device.Ifaces)
	what, of := r.Word(), ""
	switch what {
	case "vrf":
		i.VRF = r.Name()
	case "address":
		i.Addr, i.Bits = r.address()
	case "filter":
		of = r.bind(&i.In, &i.Out)
	case "nat":
		i.Side = r.side()
	case "ospf":
		of = r.area(i)
	case "shutdown":
		i.Down = true
	default:
		r.Refuse(api.ErrWord)
	}
	r.once(what, of)
}

// address takes an interface's address off.
func (r *reader) address() (api.Addr, int) {
	a := r.Addr()
	bits, e := addr.Bits(r.Addr())
	if e != api.OK || bits == 0 {
		r.Refuse(api.ErrMask)
	}
	return a, bits
}

// bind takes off a name and the direction in which what it names stands, and tells the direction.
func (r *reader) bind(in, out *string) string {
	name, way := r.Name(), r.One("in", "out")
	if way == "in" {
		*in = name
	} else {
		*out = name
	}
	return way
}

// side takes an interface's side off.
func (r *reader) side() uint8 {
	if r.One("inside", "outside") == "inside" {
		return api.Inside
	}
	return api.Outside
}

// area takes off what OSPF has to do with an interface, and tells which part of it.
func (r *reader) area(i *api.Iface) string {
	what := r.Word()
	switch what {
	case "area":
		i.Area = r.Number(0, topNumber)
	case "cost":
		i.Cost = r.Number(1, topCost)
	case "passive":
		i.Passive = true
	default:
		r.Refuse(api.ErrWord)
	}
	return what
}

// inFilter reads a line of a filter.
func (r *reader) inFilter() {
	x := api.Rule{Permit: r.permits()}
	x.Proto = r.proto()
	x.Src, x.SrcPorts = r.ends(), r.ports(x.Proto)
	x.Dst, x.DstPorts = r.ends(), r.ports(x.Proto)
	r.End()
	f := last(r.device.Filters)
	f.Rules = append(f.Rules, x)
}

// proto takes a protocol off.
func (r *reader) proto() int {
	switch {
	case r.Next("any"):
		return none
	case r.Next("tcp"):
		return tcp
	case r.Next("udp"):
		return udp
	case r.Next("icmp"):
		return icmp
	}
	return r.Number(0, topProto)
}

// ends takes off from where, or to where, a rule's headers go.
func (r *reader) ends() api.Prefix {
	switch {
	case r.Next("any"):
		return api.Prefix{}
	case r.Next("host"):
		return api.Prefix{Addr: r.Addr(), Bits: topBits}
	}
	a := r.Addr()
	return r.behind(a, ^r.Addr())
}

// ports takes a rule's ports off, where its protocol has some.
func (r *reader) ports(proto int) api.Span {
	switch {
	case !ported(proto):
	case r.Next("eq"):
		n := r.port(0)
		return api.Span{Lo: n, Hi: n}
	case r.Next("range"):
		lo := r.port(0)
		return api.Span{Lo: lo, Hi: r.port(lo)}
	}
	return allPorts()
}

// port takes a port off, which must not be below another one.
func (r *reader) port(least uint32) uint32 { return uint32(r.Number(int(least), topPort)) }
