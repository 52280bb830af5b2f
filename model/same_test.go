package model_test

import (
	"math/rand"
	"reflect"
	"slices"
	"strings"
	"testing"

	"waymark/api"
	"waymark/model"
)

// same looks whether two devices are the Same, also turned about.
func same(t *testing.T, a, b api.Device, want bool, why string) {
	t.Helper()
	if model.Same(a, b) != want || model.Same(b, a) != want {
		t.Errorf("%s: not %v", why, want)
	}
}

// P12.1: each field, of each thing of each part, counts.
func TestSameFields(t *testing.T) {
	count := 0
	base := device()
	eachField(reflect.ValueOf(&base).Elem(), "", func(path string, _ reflect.Value) {
		for n := range 3 {
			d := device()
			eachField(reflect.ValueOf(&d).Elem(), "", func(p string, x reflect.Value) {
				if p == path {
					setField(x, n)
				}
			})
			same(t, device(), d, false, path)
			same(t, d, copied(d), true, path)
			count++
		}
	})
	if count < 900 {
		t.Error("only", count, "fields")
	}
}

// formed are the lists that a form puts in order.
var formed = []string{".VRFs", ".Ifaces", ".Filters", ".Statics", ".Prefixes", ".Communities", ".Policies"}

// P12.1: each list counts, place by place; the order of things just where the form does not put them in order.
func TestSameLists(t *testing.T) {
	at := 0
	change := func(n int, how func(l reflect.Value)) api.Device {
		d, i := device(), 0
		eachList(reflect.ValueOf(&d).Elem(), "", func(_ string, l reflect.Value) {
			if i == n {
				how(l)
			}
			i++
		})
		return d
	}
	base := device()
	eachList(reflect.ValueOf(&base).Elem(), "", func(path string, l reflect.Value) {
		same(t, base, change(at, func(l reflect.Value) { l.Set(reflect.Append(l, reflect.Zero(l.Type().Elem()))) }), false, path+" longer")
		for i := range l.Len() {
			same(t, base, change(at, func(l reflect.Value) {
				l.Set(reflect.AppendSlice(l.Slice3(0, i, i), l.Slice(i+1, l.Len())))
			}), false, path+" shorter")
			same(t, base, change(at, func(l reflect.Value) { l.Set(reflect.Append(l, l.Index(i))) }), false, path+" one twice")
			for k := range i {
				if reflect.DeepEqual(l.Index(i).Interface(), l.Index(k).Interface()) {
					continue
				}
				turned := change(at, func(l reflect.Value) { reflect.Swapper(l.Interface())(i, k) })
				same(t, base, turned, slices.Contains(formed, path), path+" turned about")
			}
		}
		at++
	})
	if at < 50 {
		t.Error("only", at, "lists")
	}
}

// P12.1: things of one name, that are unlike, stay in their order: turned about they are not the same.
func TestSameOfOneName(t *testing.T) {
	d := device()
	for _, change := range []func(*api.Device){
		func(d *api.Device) { d.Ifaces[1].Name = d.Ifaces[0].Name },
		func(d *api.Device) { d.Filters[1].Name = d.Filters[0].Name },
		func(d *api.Device) { d.Prefixes[1].Name = d.Prefixes[0].Name },
		func(d *api.Device) { d.Communities[1].Name = d.Communities[0].Name },
		func(d *api.Device) { d.Policies[1].Name = d.Policies[0].Name },
	} {
		a := copied(d)
		change(&a)
		b := copied(a)
		b.Ifaces[0], b.Ifaces[1] = b.Ifaces[1], b.Ifaces[0]
		b.Filters[0], b.Filters[1] = b.Filters[1], b.Filters[0]
		b.Prefixes[0], b.Prefixes[1] = b.Prefixes[1], b.Prefixes[0]
		b.Communities[0], b.Communities[1] = b.Communities[1], b.Communities[0]
		b.Policies[0], b.Policies[1] = b.Policies[1], b.Policies[0]
		same(t, a, b, false, "of one name")
	}
}

// P12.3: of many devices, few of which are unlike: itself, turned about, and of three; just those of one form are the same.
func TestSameMany(t *testing.T) {
	r := rand.New(rand.NewSource(12))
	are, not := 0, 0
	for range 300 {
		var l []api.Device
		for range 3 {
			d := anyDevice(r, 1)
			for range 3 {
				l = append(l, shuffled(r, d))
				d = copied(d)
				d.Ifaces = append(d.Ifaces, api.Iface{Name: anyName(r)})
			}
		}
		for _, a := range l {
			for _, b := range l {
				want := alike(model.Form(a), model.Form(b))
				if want {
					are++
				} else {
					not++
				}
				same(t, a, b, want, "any")
				for _, c := range l {
					if want && model.Same(b, c) && !model.Same(a, c) {
						t.Fatal(a, b, c)
					}
				}
			}
		}
	}
	if are < 1000 || not < 1000 {
		t.Error(are, not)
	}
}

// R6: empty lists are the same as none; R3: what stands behind the ends is not looked at.
func TestSameEmpty(t *testing.T) {
	for _, d := range []api.Device{device(), {Name: "a"}} {
		empty, room := copied(d), copied(d)
		eachList(reflect.ValueOf(&empty).Elem(), "", func(_ string, l reflect.Value) {
			if l.Len() == 0 {
				l.Set(reflect.MakeSlice(l.Type(), 0, 0))
			}
		})
		eachList(reflect.ValueOf(&room).Elem(), "", func(_ string, l reflect.Value) {
			longer := reflect.AppendSlice(l, reflect.MakeSlice(l.Type(), 2, 2))
			l.Set(longer.Slice(0, l.Len()))
		})
		for _, x := range []api.Device{empty, room} {
			same(t, d, x, true, "empty")
			same(t, empty, x, true, "empty")
			if !alike(model.Twin(x), d) || !alike(model.Form(x), model.Form(d)) {
				t.Error(x)
			}
		}
	}
}

// P12.1: long texts that differ in their last byte alone.
func TestSameTexts(t *testing.T) {
	long := strings.Repeat("n", 1<<16)
	same(t, api.Device{Name: long + "a"}, api.Device{Name: long + "b"}, false, "names")
	same(t, api.Device{Name: long + "a"}, api.Device{Name: long + "a"}, true, "names")
	same(t, api.Device{VRFs: []string{long + "b", long + "a"}}, api.Device{VRFs: []string{long + "a", long + "b"}}, true, "VRFs")
}
