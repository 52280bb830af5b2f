package model_test

import (
	"fmt"
	"reflect"

	"waymark/api"
)

// device is one that may be, with things of all parts, two of each or more; the last one of each part is named by none.
func device() api.Device {
	return api.Device{
		Name: "r1", Kind: api.Nested,
		VRFs:        []string{"red", "blue", "spare"},
		Ifaces:      ifaces(),
		Filters:     []api.Filter{{Name: "web", Rules: []api.Rule{rule(6), rule(-1)}}, {Name: "all", Rules: []api.Rule{rule(-1)}}, {Name: "spare"}},
		Rewrites:    []api.Rewrite{{Filter: "web", To: 7}, {Dest: true, To: 6}, {To: 5}},
		Statics:     statics(),
		Prefixes:    []api.PrefixList{{Name: "p2", Entries: entries()}, {Name: "p1", Entries: entries()[1:]}, {Name: "spare", Entries: entries()[:1]}},
		Communities: []api.CommunityList{{Name: "c2", Members: members()}, {Name: "c1"}, {Name: "spare", Members: members()[1:]}},
		Policies:    policies(),
		OSPF: []api.OSPF{
			{VRF: "red", ID: 2, From: []api.Redist{{From: api.FromConnected, Metric: -1, Type: 2}, {From: api.FromBGP | api.FromStatic, Metric: 1 << 24, Type: 1, Policy: "in"}}},
			{ID: 1},
			{VRF: "spare", ID: 3, From: []api.Redist{{From: api.FromStatic, Metric: 5, Type: 1}}},
		},
		BGP: []api.BGP{
			{VRF: "blue", AS: 65001, ID: 2, Nets: []api.Prefix{ten, {}}, Peers: peers(), From: []api.Redist{{From: api.FromConnected | api.FromOSPF, Metric: -1}, {From: api.FromStatic, Metric: 9, Policy: "out"}}},
			{AS: 1, ID: 1, Peers: peers()[:1]},
			{VRF: "spare", AS: 2, ID: 3, Nets: []api.Prefix{ten}, Peers: []api.Peer{{Addr: 9, AS: 9}}, From: []api.Redist{{From: api.FromOSPF}}},
		},
	}
}

var ten = api.Prefix{Addr: 0x0A000000, Bits: 8}

func rule(proto int) api.Rule {
	return api.Rule{Permit: true, Proto: proto, Src: ten, SrcPorts: api.Span{Hi: 65535}, DstPorts: api.Span{Lo: 80, Hi: 81}}
}

func ifaces() []api.Iface {
	return []api.Iface{
		{Name: "lan", Addr: 0x0A020001, Bits: 24, In: "web", Out: "all", Side: api.Inside, Area: 0, Cost: 10},
		{Name: "e1", VRF: "red", Addr: 0x0A000001, Bits: 31, Side: api.Outside, Area: -1, Cost: 1},
		{Name: "e0", VRF: "blue", Down: true, Area: 7, Cost: 65535, Passive: true},
		{Name: "spare", Area: -1, Cost: 5},
	}
}

func statics() []api.Static {
	return []api.Static{
		{VRF: "red", Prefix: ten, Via: 9, Dist: 1},
		{Prefix: ten, Discard: true, Dist: 255, Tag: 1 << 24},
		{Prefix: ten, Via: 8, Dist: 1},
		{Prefix: api.Prefix{}, Via: 9, Dist: 1},
		{Prefix: ten, Discard: true, Dist: 255},
	}
}

func entries() []api.Entry {
	return []api.Entry{{Permit: true, Prefix: ten, Ge: 8, Le: 32}, {Prefix: ten, Ge: 16, Le: 24}, {Permit: true}}
}

func members() []api.Member {
	return []api.Member{{Permit: true, All: []uint32{3, 1, 3}}, {All: []uint32{2}}}
}

// clause is one that asks and sets nothing.
func clause(seq int) api.Clause {
	return api.Clause{Seq: seq, Action: api.Permit, Tag: -1, Metric: -1, Through: -1, SetMetric: -1, SetPref: -1, SetTag: -1}
}

func policies() []api.Policy {
	full := api.Clause{
		Seq: 20, Action: api.Next, Prefixes: "p1", Communities: "c2", Tag: 1, Metric: 2, Through: 3, SetMetric: 4, SetPref: 5, SetTag: 6,
		SetComm: []uint32{2, 1, 0}, Add: true, Prepend: []uint32{8, 9}, SetHop: 7, Jump: 30,
	}
	return []api.Policy{
		{Name: "out", Clauses: []api.Clause{clause(10), full, clause(30)}, Default: true},
		{Name: "in", Clauses: []api.Clause{clause(1), clause(65535)}},
		{Name: "spare", Clauses: []api.Clause{clause(10), clause(20)}},
	}
}

func peers() []api.Peer {
	return []api.Peer{{Addr: 2, AS: 65002, In: "in", Out: "out", Client: true}, {Addr: 1, AS: 65001, Self: true}}
}

// copied is the same thing with lists of its own, which have no spare room; empty lists are nil.
func copied[T any](x T) T {
	v := reflect.New(reflect.TypeOf(x)).Elem()
	v.Set(reflect.ValueOf(x))
	eachList(v, "", func(_ string, l reflect.Value) {
		own := reflect.Zero(l.Type())
		if l.Len() > 0 {
			own = reflect.MakeSlice(l.Type(), l.Len(), l.Len())
			reflect.Copy(own, l)
		}
		l.Set(own)
	})
	return v.Interface().(T)
}

// eachList visits all lists of a thing, the outer ones first, each with the way to it.
func eachList(v reflect.Value, path string, visit func(path string, l reflect.Value)) {
	switch v.Kind() {
	case reflect.Struct:
		for i := range v.NumField() {
			eachList(v.Field(i), path+"."+v.Type().Field(i).Name, visit)
		}
	case reflect.Slice:
		visit(path, v)
		for i := range v.Len() {
			eachList(v.Index(i), path+"[]", visit)
		}
	}
}

// eachField visits all numbers, texts and flags of a thing, each with the way to it.
func eachField(v reflect.Value, path string, visit func(path string, x reflect.Value)) {
	switch v.Kind() {
	case reflect.Struct:
		for i := range v.NumField() {
			eachField(v.Field(i), path+"."+v.Type().Field(i).Name, visit)
		}
	case reflect.Slice:
		for i := range v.Len() {
			eachField(v.Index(i), fmt.Sprint(path, "[", i, "]"), visit)
		}
	default:
		visit(path, v)
	}
}

// setField gives a number, text or flag another value, which hangs on n.
func setField(x reflect.Value, n int) {
	switch x.Kind() {
	case reflect.String:
		x.SetString(x.String() + fmt.Sprint("x", n))
	case reflect.Bool:
		x.SetBool(!x.Bool())
	case reflect.Int:
		x.SetInt(x.Int() + int64(n) + 1)
	default:
		x.SetUint(x.Uint() + uint64(n) + 1)
	}
}

// alike tells whether two things are the same, nil and empty lists too.
func alike[T any](a, b T) bool { return reflect.DeepEqual(copied(a), copied(b)) }
