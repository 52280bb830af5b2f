package nested_test

import (
	"math"
	"math/rand"
	"reflect"
	"sync"
	"testing"
	"unsafe"

	"waymark/api"
	"waymark/model"
	"waymark/nested"
	"waymark/tree"
)

// eachList visits all lists of a thing, those within others ahead of these.
func eachList(v reflect.Value, visit func(l reflect.Value)) {
	switch v.Kind() {
	case reflect.Struct:
		for i := range v.NumField() {
			eachList(v.Field(i), visit)
		}
	case reflect.Slice:
		for i := range v.Len() {
			eachList(v.Index(i), visit)
		}
		visit(v)
	}
}

// scribble writes over all that the lists of a thing hold, with the room behind their ends, and tells where each began and ended.
func scribble(thing any) [][2]uintptr {
	var rooms [][2]uintptr
	eachList(reflect.ValueOf(thing).Elem(), func(l reflect.Value) {
		if l.Cap() == 0 {
			return
		}
		rooms = append(rooms, [2]uintptr{l.Pointer(), l.Pointer() + uintptr(l.Cap())*l.Type().Elem().Size()})
		for i := range l.Cap() {
			l.Slice(0, l.Cap()).Index(i).SetZero()
		}
	})
	return rooms
}

// roomy gives all lists of a thing room behind their ends, with something in it.
func roomy(thing any) {
	eachList(reflect.ValueOf(thing).Elem(), func(l reflect.Value) {
		more := reflect.MakeSlice(l.Type(), l.Len()+2, l.Len()+2)
		reflect.Copy(more, l)
		for i := range l.Len() {
			more.Index(l.Len() + i%2).Set(l.Index(i))
		}
		l.Set(more.Slice(0, l.Len()))
	})
}

// behind is what stands behind the ends of a thing's lists.
func behind(thing any) []any {
	var all []any
	eachList(reflect.ValueOf(thing).Elem(), func(l reflect.Value) {
		for i := l.Len(); i < l.Cap(); i++ {
			all = append(all, l.Slice(0, l.Cap()).Index(i).Interface())
		}
	})
	return all
}

// R3: what Parse and Read answer is new memory: no two lists share any, and what is written there is seen in no other answer.
func TestReadMemory(t *testing.T) {
	l, _, _ := tree.Parse(whole)
	for name, call := range map[string]func() api.Device{
		"Parse": func() api.Device { d, _, _ := nested.Parse(whole); return d },
		"Read":  func() api.Device { d, _, _ := nested.Read(l); return d },
	} {
		first, second := call(), call()
		rooms := scribble(&first)
		if !alike(second, wholeDevice()) || !alike(call(), wholeDevice()) {
			t.Error(name, "seen elsewhere")
		}
		rooms = append(rooms, scribble(&second)...)
		for i, a := range rooms {
			for _, b := range rooms[:i] {
				if a[0] < b[1] && b[0] < a[1] {
					t.Error(name, "shared room:", a, b)
				}
			}
		}
		if len(rooms) < 40 {
			t.Error(name, "few lists:", len(rooms))
		}
	}
}

// R3: Read reads no list beyond its end, changes nothing, and keeps nothing.
func TestReadKeepsNothing(t *testing.T) {
	l, _, _ := tree.Parse(whole)
	roomy(&l)
	was, more := written(l), behind(&l)
	d, _, e := nested.Read(l)
	if e != api.OK || !alike(d, wholeDevice()) {
		t.Error(d, e)
	}
	if written(l) != was || !reflect.DeepEqual(behind(&l), more) {
		t.Error("changed")
	}
	scribble(&l)
	if !alike(d, wholeDevice()) {
		t.Error("kept")
	}
}

// R3: no text in a device keeps the one that was handed in.
func TestTextsAreNotKept(t *testing.T) {
	room := []byte(whole)
	d, _, _ := nested.Parse(unsafe.String(&room[0], len(room)))
	for i := range room {
		room[i] = '#'
	}
	if !alike(d, wholeDevice()) {
		t.Error(d)
	}
}

// R3: Print reads no list beyond its end, and changes nothing.
func TestPrintMemory(t *testing.T) {
	d := wholeDevice()
	want, _ := nested.Print(d)
	roomy(&d)
	was, more := model.Twin(d), behind(&d)
	if s, e := nested.Print(d); e != api.OK || s != want {
		t.Error(s, e)
	}
	if !alike(d, was) || !reflect.DeepEqual(behind(&d), more) {
		t.Error("changed")
	}
}

// R1: Print answers of any device, of any numbers.
func TestPrintAnything(t *testing.T) {
	for _, n := range []int{math.MinInt, -2, -1, 0, 1, 2, 33, 65536, 1 << 24, math.MaxInt} {
		for _, size := range []int{0, 1, 3} {
			var d api.Device
			stuff(reflect.ValueOf(&d).Elem(), n, size)
			for _, kind := range []uint8{api.Flat, api.Nested, uint8(n)} {
				d.Name, d.Kind = "a", kind
				if s, e := nested.Print(d); (e == api.OK) != (kind == api.Nested && size == 0) || e != api.OK && (e != api.ErrModel || s != "") {
					t.Error(n, size, kind, e, s)
				}
			}
		}
	}
}

// stuff puts a number everywhere in a thing, and so many things in each of its lists.
func stuff(v reflect.Value, n, size int) {
	switch v.Kind() {
	case reflect.Struct:
		for i := range v.NumField() {
			stuff(v.Field(i), n, size)
		}
	case reflect.Slice:
		v.Set(reflect.MakeSlice(v.Type(), size, size))
		for i := range size {
			stuff(v.Index(i), n, size)
		}
	case reflect.Bool:
		v.SetBool(n%2 == 0)
	case reflect.Int:
		v.SetInt(int64(n))
	case reflect.String:
		v.SetString([]string{"", "a", "1\n"}[size%3])
	default:
		v.SetUint(uint64(n) & (1<<v.Type().Bits() - 1))
	}
}

// R1: Read answers of any statements, of any words, and the same again.
func TestReadAnything(t *testing.T) {
	r := rand.New(rand.NewSource(1))
	var any func(deep int) []tree.Node
	any = func(deep int) []tree.Node {
		var l []tree.Node
		for range r.Intn(4) {
			kinds := []string{"text", "interfaces", "interface", "filter", "rule", "fits", "policy", "statement", "clause", "sets", "protocols", "bgp", "peer"}
			kind := pick(r, kinds...)
			n := tree.Node{Block: r.Intn(2) == 0, Words: anyWords(r, rows[kind][r.Intn(len(rows[kind]))])}
			n.Words = n.Words[:r.Intn(len(n.Words)+1)]
			for range r.Intn(3) {
				n.Pos = append(n.Pos, api.Pos{Line: r.Int() - r.Int(), Col: r.Intn(9)})
			}
			if deep > 0 {
				n.Kids = any(deep - 1)
			}
			l = append(l, n)
		}
		return l
	}
	for range 5000 {
		agreeRead(t, any(4))
	}
	deep := []tree.Node{leaf("host-name a")}
	for range 1<<16 - 8 {
		deep = []tree.Node{block("system", deep...)}
	}
	if _, pos, e := nested.Read(deep); e != api.ErrWord || pos != (api.Pos{}) {
		t.Error(pos, e)
	}
}

// R2: calls do not see one another, at one time either.
func TestAtOneTime(t *testing.T) {
	want, _ := nested.Print(wholeDevice())
	l, _, _ := tree.Parse(whole)
	var group sync.WaitGroup
	for range 8 {
		group.Go(func() {
			for range 50 {
				d, _, _ := nested.Parse(whole)
				same, _, _ := nested.Read(l)
				if s, e := nested.Print(d); e != api.OK || s != want || !alike(d, wholeDevice()) || !alike(same, d) {
					t.Error(s, e)
				}
			}
		})
	}
	group.Wait()
}
