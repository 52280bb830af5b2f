package flat

import "waymark/api"

// inClause reads a line of a route-map.
func (r *reader) inClause() {
	c := last(r.policy.Clauses)
	switch r.Word() {
	case "match":
		r.match(c)
	case "set":
		r.set(c)
	case "continue":
		c.Jump = r.Number(c.Seq+1, topSeq)
		r.once("continue", "")
	default:
		r.Refuse(api.ErrWord)
	}
}

// match reads what a clause asks.
func (r *reader) match(c *api.Clause) {
	what := r.Word()
	switch what {
	case "prefix-list":
		c.Prefixes = r.Name()
	case "community-list":
		c.Communities = r.Name()
	case "tag":
		c.Tag = r.Number(0, topNumber)
	case "metric":
		c.Metric = r.Number(0, topNumber)
	case "as":
		c.Through = int(r.AS())
	default:
		r.Refuse(api.ErrWord)
	}
	r.once("match", what)
}

// set reads what a clause sets.
func (r *reader) set(c *api.Clause) {
	what := r.Word()
	switch what {
	case "metric":
		c.SetMetric = r.Number(0, topNumber)
	case "preference":
		c.SetPref = r.Number(0, topNumber)
	case "tag":
		c.SetTag = r.Number(0, topNumber)
	case "community":
		c.Add = r.Next("add")
		c.SetComm = r.Communities()
	case "prepend":
		c.Prepend = r.ASes()
	case "next-hop":
		c.SetHop = r.Hop()
	default:
		r.Refuse(api.ErrWord)
	}
	r.once("set", what)
}
