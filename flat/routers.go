package flat

import (
	"slices"

	"waymark/addr"
	"waymark/api"
)

// inOSPF reads a line of a router ospf.
func (r *reader) inOSPF() {
	o := last(r.device.OSPF)
	switch r.Word() {
	case "router-id":
		o.ID = r.id()
	case "redistribute":
		o.From = append(o.From, r.redist("bgp"))
	default:
		r.Refuse(api.ErrWord)
	}
}

// inBGP reads a line of a router bgp.
func (r *reader) inBGP() {
	b := last(r.device.BGP)
	switch r.Word() {
	case "router-id":
		b.ID = r.id()
	case "network":
		p := r.masked()
		r.once("network", addr.PrefixText(p))
		b.Nets = append(b.Nets, p)
	case "neighbor":
		r.neighbor(b)
	case "redistribute":
		b.From = append(b.From, r.redist("ospf"))
	default:
		r.Refuse(api.ErrWord)
	}
}

// id reads a router's number to the line's end.
func (r *reader) id() api.Addr {
	a := r.Addr()
	r.once("router-id", "")
	return a
}

// redist reads what is taken over to the line's end; from which side besides, hangs on the router.
func (r *reader) redist(other string) api.Redist {
	x := api.Redist{From: sideOf(r.One("connected", "static", other))}
	x.Metric = r.Option("metric", 0, topNumber, none)
	if other == "bgp" {
		x.Type = uint8(r.Option("type", 1, 2, anyType))
	}
	x.Policy = r.Named("route-map")
	r.End()
	return x
}

// neighbor reads what is said of a neighbour.
func (r *reader) neighbor(b *api.BGP) {
	a := r.Addr()
	if r.Next("as") {
		as := r.AS()
		r.once("neighbor as", addr.Text(a))
		b.Peers = append(b.Peers, api.Peer{Addr: a, AS: as})
		return
	}
	p := &api.Peer{} // what is said of one that is not there is read all the same
	at := slices.IndexFunc(b.Peers, func(p api.Peer) bool { return p.Addr == a })
	if at >= 0 {
		p = &b.Peers[at]
	}
	r.once("neighbor "+r.peer(p), addr.Text(a))
	if at < 0 {
		r.RefuseAll(api.ErrRef)
	}
}

// peer reads what is said of a neighbour that is there, and tells what that is.
func (r *reader) peer(p *api.Peer) string {
	what := r.One("route-map", "client", "next-hop-self")
	switch what {
	case "client":
		p.Client = true
	case "next-hop-self":
		p.Self = true
	case "route-map":
		return r.bind(&p.In, &p.Out)
	}
	return what
}
