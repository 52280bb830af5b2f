package spf_test

import (
	"strconv"
	"testing"

	"waymark/api"
	"waymark/spf"
)

// full are as many devices as may be, with as many interfaces each as may be: linked in a row, with all others made by stub.
func full(cost int, stub func(device, iface int) api.Iface) []api.Device {
	list := make([]api.Device, api.MaxDevices)
	for d := range list {
		list[d] = router("r"+strconv.Itoa(100+d), api.Addr(d+1))
		if d > 0 {
			list[d].Ifaces = append(list[d].Ifaces, on("left", 0, d-1, 2, 30, 0, cost))
		}
		if d < len(list)-1 {
			list[d].Ifaces = append(list[d].Ifaces, on("right", 0, d, 1, 30, 0, cost))
		}
		for i := len(list[d].Ifaces); i < api.MaxIfaces; i++ {
			list[d].Ifaces = append(list[d].Ifaces, stub(d, i))
		}
	}
	return list
}

// P18.1, P18.2: the longest row, at the greatest costs, with as many subnets as there can be.
func TestRow(t *testing.T) {
	x := made(t, full(65535, func(d, i int) api.Iface { return on("e"+strconv.Itoa(i), 1+d, i, 1, 24, 0, 65535) }))
	if got := way(t, x, 0, 31); got != (spf.Cost{From: api.Intra, Metric: 31 * 65535}) {
		t.Error(got)
	}
	if got := costs(t, x, 31); len(got) != 31+2*63+30*62 {
		t.Error(len(got))
	}
	got := table(t, x, 31, api.Taken{Device: 0, Metric: 1 << 24, Type: 1, Tag: 1 << 24})
	if len(got) != 1+30+63+30*62 || got[0].Metric != 31*65535+1<<24 || got[0].Tag != 1<<24 {
		t.Error(len(got), got[0])
	}
	last := api.Route{Prefix: ten(1, 63, 0, 24), From: api.Intra, Dist: 110, Metric: 32 * 65535, Iface: "left", Hop: 0x0A001E01}
	for _, r := range got {
		if r.Prefix == last.Prefix && r != last {
			t.Error(r)
		}
	}
}

// P18.1: as many areas as interfaces, so that there are as many borders and places to be told of as can be.
func TestAreas(t *testing.T) {
	x := made(t, full(1, func(d, i int) api.Iface { return on("e"+strconv.Itoa(i), 1+d, i, 1, 24, 1+d*64+i, 1+i) }))
	for i, k := range spf.Instances(x) {
		want := 63
		if i == 0 || i == 31 {
			want = 64
		}
		if !k.Border || len(k.Areas) != want {
			t.Error(i, k.Border, len(k.Areas))
		}
	}
	got := costs(t, x, 0)
	if len(got) != 31+2*63+30*62 {
		t.Error(len(got))
	}
	for _, c := range got {
		if c.Prefix.Bits == 30 {
			continue
		}
		d, i := int(c.Prefix.Addr>>16&0xFF)-1, int(c.Prefix.Addr>>8&0xFF)
		if c.Metric != d+1+i || (c.From == api.Intra) != (d == 0) {
			t.Error(c)
		}
	}
}

// P18.1: each interface a VRF and an instance of its own, all on one subnet.
func TestVRFs(t *testing.T) {
	list := make([]api.Device, api.MaxDevices)
	for d := range list {
		list[d] = api.Device{Name: "r" + strconv.Itoa(100+d), Kind: api.Flat}
		for i := range api.MaxIfaces {
			vrf := "v" + strconv.Itoa(100+i)
			list[d].VRFs = append(list[d].VRFs, vrf)
			list[d].OSPF = append(list[d].OSPF, api.OSPF{VRF: vrf, ID: api.Addr(1 + d*64 + i)})
			list[d].Ifaces = append(list[d].Ifaces, inVRF(vrf, on("e"+strconv.Itoa(i), 0, d, i+1, 16, 0, 1+d*64+i)))
		}
	}
	x := made(t, list)
	for _, k := range [][3]int{{0, 2047, 1}, {2047, 0, 2048}, {0, 63, 1 + 65}, {63, 0, 64 + 65}, {2047, 1990, 2048 + 1}} {
		if got := way(t, x, k[0], k[1]); got != (spf.Cost{From: api.Intra, Metric: k[2]}) {
			t.Error(k, got)
		}
	}
	if got := costs(t, x, 2047); len(got) != 1 || got[0].Metric != 2048 {
		t.Error(got)
	}
}
