package nested

import "waymark/api"

func (d *device) inFirewall(s *statement) {
	s.One("filter")
	d.Filters = append(d.Filters, api.Filter{Name: s.Name()})
	s.block(d.inFilter)
}

func (d *device) inFilter(s *statement) {
	s.One("term")
	s.Name()
	f := last(d.Filters)
	f.Rules = append(f.Rules, api.Rule{Proto: none, SrcPorts: allPorts(), DstPorts: allPorts()})
	if said := s.block(d.inRule); !said.has("then") {
		s.RefuseAll(api.ErrNone)
	}
}

func (d *device) inRule(s *statement) {
	switch s.Word() {
	case "from":
		s.block(d.inFits)
	case "then":
		last(last(d.Filters).Rules).Permit = s.One("accept", "discard") == "accept"
		s.once("then")
	default:
		s.Refuse(api.ErrWord)
	}
}

// inFits takes what headers must have to fit a rule.
func (d *device) inFits(s *statement) {
	x := last(last(d.Filters).Rules)
	what := s.Word()
	switch what {
	case "protocol":
		x.Proto = s.proto()
	case "source":
		x.Src = s.Prefix()
	case "destination":
		x.Dst = s.Prefix()
	case "source-port":
		x.SrcPorts = s.ports()
	case "destination-port":
		x.DstPorts = s.ports()
	default:
		s.Refuse(api.ErrWord)
	}
	s.once(what)
}
