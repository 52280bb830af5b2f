package nested

import "waymark/api"

// inPolicy takes lists too: policies are called statements there.
func (d *device) inPolicy(s *statement) {
	switch s.Word() {
	case "prefix-list":
		d.Prefixes = append(d.Prefixes, api.PrefixList{Name: s.Name()})
		s.block(d.inPrefixes)
	case "community":
		d.Communities = append(d.Communities, api.CommunityList{Name: s.Name()})
		s.block(d.inCommunities)
	case "statement":
		d.Policies = append(d.Policies, api.Policy{Name: s.Name(), Default: true})
		s.block(d.inStatement)
	default:
		s.Refuse(api.ErrWord)
	}
}

func (d *device) inPrefixes(s *statement) {
	x := api.Entry{Prefix: s.Prefix()}
	x.Ge, x.Le = x.Prefix.Bits, s.Option("upto", x.Prefix.Bits, topBits, none)
	if s.Next("from") {
		if x.Le == none {
			x.Le = topBits
		}
		x.Ge = s.Number(x.Prefix.Bits, x.Le)
	} else if x.Le == none {
		x.Le = x.Prefix.Bits
	}
	x.Permit = !s.Next("reject")
	s.leaf()
	l := last(d.Prefixes)
	l.Entries = append(l.Entries, x)
}

func (d *device) inCommunities(s *statement) {
	x := api.Member{Permit: s.One("members", "reject") == "members", All: s.Communities()}
	s.leaf()
	l := last(d.Communities)
	l.Members = append(l.Members, x)
}

func (d *device) inStatement(s *statement) {
	p := last(d.Policies)
	switch s.Word() {
	case "default":
		p.Default = s.One("accept", "reject") == "accept"
		s.once("default")
	case "term":
		s.Name()
		seq := seqStep * (len(p.Clauses) + 1)
		p.Clauses = append(p.Clauses, api.Clause{Seq: seq, Action: api.Next, Tag: none, Metric: none, Through: none, SetMetric: none, SetPref: none, SetTag: none})
		s.block(d.inClause)
	default:
		s.Refuse(api.ErrWord)
	}
}

func (d *device) inClause(s *statement) {
	switch s.Word() {
	case "from":
		s.block(d.inAsks)
	case "then":
		s.block(d.inSets)
	default:
		s.Refuse(api.ErrWord)
	}
}

// inAsks takes what a clause asks.
func (d *device) inAsks(s *statement) {
	c := last(last(d.Policies).Clauses)
	what := s.Word()
	switch what {
	case "prefix-list":
		c.Prefixes = s.Name()
	case "community":
		c.Communities = s.Name()
	case "tag":
		c.Tag = s.Number(0, topNumber)
	case "metric":
		c.Metric = s.Number(0, topNumber)
	case "as":
		c.Through = int(s.AS())
	default:
		s.Refuse(api.ErrWord)
	}
	s.once(what)
}

// inSets takes what a clause does and sets.
func (d *device) inSets(s *statement) {
	c := last(last(d.Policies).Clauses)
	what := s.Word()
	switch what {
	case "accept", "reject", "next":
		c.Action = actionOf(what)
		what = "action"
	case "metric":
		c.SetMetric = s.Number(0, topNumber)
	case "preference":
		c.SetPref = s.Number(0, topNumber)
	case "tag":
		c.SetTag = s.Number(0, topNumber)
	case "community":
		c.Add = s.One("set", "add") == "add"
		c.SetComm = s.Communities()
	case "prepend":
		c.Prepend = s.ASes()
	case "next-hop":
		c.SetHop = s.Hop()
	default:
		s.Refuse(api.ErrWord)
	}
	s.once(what)
}
