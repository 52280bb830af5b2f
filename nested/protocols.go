package nested

import "waymark/api"

func (d *device) inProtocols(s *statement) {
	switch s.Word() {
	case "ospf":
		d.OSPF = append(d.OSPF, api.OSPF{VRF: s.vrf()})
		s.block(d.inOSPF)
	case "bgp":
		d.BGP = append(d.BGP, api.BGP{VRF: s.vrf()})
		s.block(d.inBGP)
	default:
		s.Refuse(api.ErrWord)
	}
}

// vrf takes a VRF off, if one is said.
func (s *statement) vrf() string {
	if s.More() {
		return s.Name()
	}
	return ""
}

func (d *device) inOSPF(s *statement) {
	o := last(d.OSPF)
	switch s.Word() {
	case "router-id":
		o.ID = s.Addr()
		s.once("router-id")
	case "export":
		o.From = append(o.From, s.redist("bgp"))
	default:
		s.Refuse(api.ErrWord)
	}
}

func (d *device) inBGP(s *statement) {
	b := last(d.BGP)
	switch s.Word() {
	case "router-id":
		b.ID = s.Addr()
		s.once("router-id")
	case "local-as":
		b.AS = s.AS()
		s.once("local-as")
	case "network":
		b.Nets = append(b.Nets, s.Prefix())
		s.leaf()
	case "neighbor":
		b.Peers = append(b.Peers, api.Peer{Addr: s.Addr()})
		s.block(d.inPeer)
	case "export":
		b.From = append(b.From, s.redist("ospf"))
	default:
		s.Refuse(api.ErrWord)
	}
}

func (d *device) inPeer(s *statement) {
	p := last(last(d.BGP).Peers)
	what := s.Word()
	switch what {
	case "peer-as":
		p.AS = s.AS()
	case "import":
		p.In = s.Name()
	case "export":
		p.Out = s.Name()
	case "client":
		p.Client = true
	case "next-hop-self":
		p.Self = true
	default:
		s.Refuse(api.ErrWord)
	}
	s.once(what)
}
