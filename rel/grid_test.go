package rel_test

import (
	"math/big"
	"slices"

	"waymark/api"
	"waymark/header"
	"waymark/rel"
)

// begins are the least numbers of the pieces into which the tests cut each field. Some pieces have one number alone: what is put must be such a one.
var begins = [][]uint64{
	{0, 0x0A000000, 0x0A000001, 0x0A000002, 0x0B000000, 0xFFFFFFFF},
	{0, 1, 0x80000000, 0xC0000000},
	{0, 6, 7, 255},
	{0, 1024, 65535},
	{0, 80, 81},
}

// ends are one more than the greatest numbers of the fields.
var ends = []uint64{1 << 32, 1 << 32, 1 << 8, 1 << 16, 1 << 16}

// piece tells the least and the greatest number of a field's piece.
func piece(f, i int) (lo, hi uint64) {
	list := append(slices.Clone(begins[f]), ends[f])
	return list[i], list[i+1] - 1
}

// box is a piece of each field.
type box [5]int

// boxes are all of them, in the order of their headers.
func boxes() []box {
	list := []box{{}}
	for f := range 5 {
		var longer []box
		for _, b := range list {
			for i := range begins[f] {
				b[f] = i
				longer = append(longer, b)
			}
		}
		list = longer
	}
	return list
}

var allBoxes = boxes()

// number is where a box stands among all.
func (b box) number() int {
	n := 0
	for f, i := range b {
		n = n*len(begins[f]) + i
	}
	return n
}

// least is a box's least header, greatest its greatest one, and other one between.
func (b box) least() api.Header {
	return b.header(func(lo, hi uint64) uint64 { return lo })
}

func (b box) greatest() api.Header {
	return b.header(func(lo, hi uint64) uint64 { return hi })
}

func (b box) other() api.Header {
	return b.header(func(lo, hi uint64) uint64 { return lo + (hi-lo)/3 })
}

func (b box) header(of func(lo, hi uint64) uint64) api.Header {
	var at [5]uint64
	for f := range at {
		at[f] = of(piece(f, b[f]))
	}
	return api.Header{Src: api.Addr(at[0]), Dst: api.Addr(at[1]), Proto: uint8(at[2]), SrcPort: uint16(at[3]), DstPort: uint16(at[4])}
}

// many is how many headers a box has.
func (b box) many() *big.Int {
	n := big.NewInt(1)
	for f, i := range b {
		lo, hi := piece(f, i)
		n.Mul(n, new(big.Int).SetUint64(hi-lo+1))
	}
	return n
}

// field is a header's number in a field.
func field(h api.Header, f int) uint64 {
	return []uint64{uint64(h.Src), uint64(h.Dst), uint64(h.Proto), uint64(h.SrcPort), uint64(h.DstPort)}[f]
}

// boxOf is the box of a header.
func boxOf(h api.Header) box {
	var b box
	for f := range b {
		for i, lo := range begins[f] {
			if field(h, f) >= lo {
				b[f] = i
			}
		}
	}
	return b
}

// group is a set of headers as the document's words have it: for each box whether its headers are in it, a byte each, so that it can be a map's key.
type group string

// grouped is the set of the boxes that are so.
func grouped(is func(b box) bool) group {
	list := make([]byte, len(allBoxes))
	for i, b := range allBoxes {
		if is(b) {
			list[i] = 1
		}
	}
	return group(list)
}

func (g group) has(b box) bool { return g[b.number()] == 1 }

// count is how many headers are in it.
func (g group) count() api.Count {
	n := new(big.Int)
	for _, b := range allBoxes {
		if g.has(b) {
			n.Add(n, b.many())
		}
	}
	low := new(big.Int).And(n, new(big.Int).SetUint64(1<<64-1))
	return api.Count{Hi: new(big.Int).Rsh(n, 64).Uint64(), Lo: low.Uint64()}
}

// branch leads from the headers of a set: to themselves; to the one with another number in a field; or to every header.
type branch struct {
	from  group
	kind  int
	field rel.Field
	value uint64
}

const (
	stays = iota
	puts
	anywhere
)

// leads is a relation: where one of its branches leads.
type leads []branch

// put is a box with the piece of a number in a field.
func (b box) put(f rel.Field, v uint64) box {
	b[f] = slices.Index(begins[f], v)
	return b
}

func (r leads) image(a group) group {
	to := make([]byte, len(allBoxes))
	for _, x := range r {
		for _, b := range allBoxes {
			switch {
			case !a.has(b) || !x.from.has(b):
			case x.kind == anywhere:
				return grouped(func(box) bool { return true })
			case x.kind == puts:
				to[b.put(x.field, x.value).number()] = 1
			default:
				to[b.number()] = 1
			}
		}
	}
	return group(to)
}

func (r leads) preimage(a group) group {
	some := slices.ContainsFunc(allBoxes, a.has)
	return grouped(func(b box) bool {
		return slices.ContainsFunc(r, func(x branch) bool {
			if !x.from.has(b) {
				return false
			}
			switch x.kind {
			case anywhere:
				return some
			case puts:
				return a.has(b.put(x.field, x.value))
			}
			return a.has(b)
		})
	})
}

// with is a header with a number in a field.
func with(h api.Header, f rel.Field, v uint64) api.Header {
	switch f {
	case rel.Src:
		h.Src = api.Addr(v)
	case rel.Dst:
		h.Dst = api.Addr(v)
	case rel.Proto:
		h.Proto = uint8(v)
	case rel.SrcPort:
		h.SrcPort = uint16(v)
	default:
		h.DstPort = uint16(v)
	}
	return h
}

// leads tells whether a relation leads from one header to another one.
func (r leads) leads(from, to api.Header) bool {
	return slices.ContainsFunc(r, func(x branch) bool {
		if !x.from.has(boxOf(from)) {
			return false
		}
		switch x.kind {
		case anywhere:
			return true
		case puts:
			return with(from, x.field, x.value) == to
		}
		return from == to
	})
}

// where is a relation from the headers of a set alone.
func (r leads) where(a group) leads {
	list := slices.Clone(r)
	for i, x := range list {
		list[i].from = grouped(func(b box) bool { return x.from.has(b) && a.has(b) })
	}
	return list
}

// turned are a header, and all of which one bit is another one.
func turned(h api.Header) []api.Header {
	list := []api.Header{h}
	for i := range header.Width {
		bit, _ := header.Bit(h, i)
		other, _ := header.With(h, i, !bit)
		list = append(list, other)
	}
	return list
}

// numbers tell numbers below others that are as good as any, and always the same.
func numbers(seed uint64) func(int) int {
	return func(below int) int {
		seed = seed*6364136223846793005 + 1442695040888963407
		return int(seed >> 33 % uint64(below))
	}
}
