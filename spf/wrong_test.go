package spf_test

import (
	"math"
	"testing"

	"waymark/api"
	"waymark/spf"
	"waymark/topo"
)

// R1, P18.1, P18.2: of nil, and of none that New made.
func TestNil(t *testing.T) {
	if l := spf.Instances(nil); len(l) != 0 {
		t.Error(l)
	}
	for _, i := range []int{0, -1, math.MaxInt} {
		if c, e := spf.Way(nil, i, i); c != (spf.Cost{}) || e != api.ErrNil {
			t.Error(i, c, e)
		}
		if l, e := spf.Costs(nil, i); len(l) != 0 || e != api.ErrNil {
			t.Error(i, l, e)
		}
		if l, e := spf.Routes(nil, []api.Taken{{Device: i}}); len(l) != 0 || e != api.ErrNil {
			t.Error(i, l, e)
		}
	}
	if l, e := spf.Routes(nil, nil); len(l) != 0 || e != api.ErrNil {
		t.Error(l, e)
	}
	x := new(topo.Topo)
	spf.Instances(x)
	spf.Way(x, 0, 0)
	spf.Costs(x, 0)
	spf.Routes(x, nil)
	spf.Routes(x, []api.Taken{{}})
}

// P18.1: instances that are none, ahead of ways that are none.
func TestNoInstance(t *testing.T) {
	l := chapter(0, 0)
	l[0].Ifaces = nil
	x := made(t, l)
	if c, e := spf.Way(x, 0, 2); c != (spf.Cost{}) || e != api.ErrNone {
		t.Error(c, e)
	}
	for _, i := range []int{math.MinInt, -1, 3, 4, math.MaxInt} {
		for k := range 3 {
			if c, e := spf.Way(x, i, k); c != (spf.Cost{}) || e != api.ErrArg {
				t.Error(i, k, c, e)
			}
			if c, e := spf.Way(x, k, i); c != (spf.Cost{}) || e != api.ErrArg {
				t.Error(k, i, c, e)
			}
		}
		if l, e := spf.Costs(x, i); len(l) != 0 || e != api.ErrArg {
			t.Error(i, l, e)
		}
	}
	none := made(t, nil)
	if c, e := spf.Way(none, 0, 0); c != (spf.Cost{}) || e != api.ErrArg {
		t.Error(c, e)
	}
	if l, e := spf.Costs(none, 0); len(l) != 0 || e != api.ErrArg {
		t.Error(l, e)
	}
}

// P18.2: each thing that may not be of what is taken over, wherever it stands; and the ends of what may be.
func TestTakenWrong(t *testing.T) {
	l := chapter(0, 0)
	l[2].VRFs = []string{"red"}
	l[2].OSPF = append(l[2].OSPF, api.OSPF{VRF: "red", ID: 9})
	x := made(t, append(l, api.Device{Name: "d", Kind: api.Flat}))
	good := taken(1, 1, 1, 1)
	with := func(change func(*api.Taken)) api.Taken {
		y := good
		change(&y)
		return y
	}
	var wrong, right []api.Taken
	for _, n := range []int{math.MinInt, -1, 4, math.MaxInt} {
		wrong = append(wrong, with(func(y *api.Taken) { y.Device = n }))
	}
	wrong = append(wrong, with(func(y *api.Taken) { y.Device = 3 }))
	for _, n := range []int{math.MinInt, -1, 2, math.MaxInt} {
		wrong = append(wrong, with(func(y *api.Taken) { y.Instance = n }))
	}
	wrong = append(wrong, with(func(y *api.Taken) { y.Device, y.Instance = 0, 1 }))
	for _, n := range []int{math.MinInt, -1, 1<<24 + 1, math.MaxInt} {
		wrong = append(wrong, with(func(y *api.Taken) { y.Metric = n }), with(func(y *api.Taken) { y.Tag = n }))
	}
	for n := range 256 {
		if n != 1 && n != 2 {
			wrong = append(wrong, with(func(y *api.Taken) { y.Type = uint8(n) }))
		}
	}
	for _, p := range []api.Prefix{{Bits: -1}, {Bits: 33}, {Addr: 1, Bits: 31}, {Addr: 1 << 31}, {Addr: 0x0A000001, Bits: 24}} {
		wrong = append(wrong, with(func(y *api.Taken) { y.Prefix = p }))
	}
	for _, n := range []int{0, 1 << 24} {
		right = append(right, with(func(y *api.Taken) { y.Metric = n }), with(func(y *api.Taken) { y.Tag = n }))
	}
	right = append(right, with(func(y *api.Taken) { y.Type = 2 }), with(func(y *api.Taken) { y.Device, y.Instance = 2, 0 }), with(func(y *api.Taken) { y.Prefix = api.Prefix{} }), with(func(y *api.Taken) { y.Prefix = api.Prefix{Addr: math.MaxUint32, Bits: 32} }))
	for _, y := range wrong {
		for _, ext := range [][]api.Taken{{y}, {good, y}, {y, good}, {good, good, y}} {
			if l, e := spf.Routes(x, ext); len(l) != 0 || e != api.ErrArg {
				t.Error(ext, l, e)
			}
		}
	}
	for _, y := range append(right, good, with(func(y *api.Taken) { y.Instance = 1 })) {
		if l, e := spf.Routes(x, []api.Taken{good, y}); len(l) != 4 || e != api.OK {
			t.Error(y, l, e)
		}
	}
}
