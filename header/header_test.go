package header_test

import (
	"math"
	"math/big"
	"testing"

	"waymark/api"
	"waymark/header"
)

var greatest = api.Header{Src: math.MaxUint32, Dst: math.MaxUint32, Proto: math.MaxUint8, SrcPort: math.MaxUint16, DstPort: math.MaxUint16}

// whole is a header's bits as a number, reckoned field by field.
func whole(h api.Header) *big.Int {
	fields := []struct {
		value uint64
		bits  uint
	}{{uint64(h.Src), 32}, {uint64(h.Dst), 32}, {uint64(h.Proto), 8}, {uint64(h.SrcPort), 16}, {uint64(h.DstPort), 16}}
	n := new(big.Int)
	for _, f := range fields {
		n.Lsh(n, f.bits).Add(n, new(big.Int).SetUint64(f.value))
	}
	return n
}

// fromWhole is the header whose bits are a number.
func fromWhole(n *big.Int) api.Header {
	field := func(down, bits uint) uint64 {
		x := new(big.Int).Rsh(n, down)
		return x.Mod(x, new(big.Int).Lsh(big.NewInt(1), bits)).Uint64()
	}
	return api.Header{Src: api.Addr(field(72, 32)), Dst: api.Addr(field(40, 32)), Proto: uint8(field(32, 8)), SrcPort: uint16(field(16, 16)), DstPort: uint16(field(0, 16))}
}

// samples are headers at which something changes: single bits, all but one, runs from both ends; and a few everyday ones.
func samples() []api.Header {
	list := []api.Header{
		{Src: 0x0A000001, Dst: 0x0A000002, Proto: 6, SrcPort: 1024, DstPort: 80},
		{Src: 0xC0A80164, Dst: 0x08080808, Proto: 17, SrcPort: 53535, DstPort: 53},
		{Src: 0x01234567, Dst: 0x89ABCDEF, Proto: 0x5A, SrcPort: 0x1E2D, DstPort: 0x3C4B},
		{Src: 0x76543210, Dst: 0xFEDCBA98, Proto: 0xA5, SrcPort: 0xE1D2, DstPort: 0xC3B4},
	}
	one := big.NewInt(1)
	all := whole(greatest)
	for n := range uint(header.Width + 1) {
		run := new(big.Int).Lsh(one, n)
		run.Sub(run, one)
		list = append(list, fromWhole(run), fromWhole(new(big.Int).Xor(all, run)))
		if n < header.Width {
			bit := new(big.Int).Lsh(one, n)
			list = append(list, fromWhole(bit), fromWhole(new(big.Int).Xor(all, bit)))
		}
	}
	return list
}

// P3.1: where the fields begin.
func TestPlaces(t *testing.T) {
	if got := [...]int{header.Width, header.Src, header.Dst, header.Proto, header.SrcPort, header.DstPort}; got != [...]int{104, 0, 32, 64, 72, 88} {
		t.Error(got)
	}
}

// P3.1: known headers' bytes.
func TestBytesKnown(t *testing.T) {
	known := []struct {
		header api.Header
		bytes  [13]byte
	}{
		{api.Header{}, [13]byte{}},
		{greatest, [13]byte{255, 255, 255, 255, 255, 255, 255, 255, 255, 255, 255, 255, 255}},
		{api.Header{Src: 0x0A000001, Dst: 0x0A000002, Proto: 6, SrcPort: 1024, DstPort: 80}, [13]byte{0x0A, 0, 0, 1, 0x0A, 0, 0, 2, 6, 4, 0, 0, 0x50}},
		{api.Header{Src: 0x01020304, Dst: 0x05060708, Proto: 9, SrcPort: 0x0A0B, DstPort: 0x0C0D}, [13]byte{1, 2, 3, 4, 5, 6, 7, 8, 9, 10, 11, 12, 13}},
	}
	for _, k := range known {
		if b := header.Bytes(k.header); b != k.bytes {
			t.Errorf("Bytes(%v): %v, not %v", k.header, b, k.bytes)
		}
		if h := header.Of(k.bytes); h != k.header {
			t.Errorf("Of(%v): %v, not %v", k.bytes, h, k.header)
		}
	}
}

// P3.1: the bytes are those of the bits as a number; and back (P3.3).
func TestBytes(t *testing.T) {
	for _, h := range samples() {
		var want [13]byte
		whole(h).FillBytes(want[:])
		if b := header.Bytes(h); b != want {
			t.Errorf("Bytes(%v): %v, not %v", h, b, want)
		}
		if g := header.Of(want); g != h {
			t.Errorf("Of(%v): %v, not %v", want, g, h)
		}
	}
}

// P3.3: each byte's value at each of the thirteen places goes there and back.
func TestBytesEach(t *testing.T) {
	for _, base := range [][13]byte{{}, {1, 2, 3, 4, 5, 6, 7, 8, 9, 10, 11, 12, 13}, header.Bytes(greatest)} {
		for place := range base {
			for k := range 256 {
				b := base
				b[place] = byte(k)
				if h := header.Of(b); h != fromWhole(new(big.Int).SetBytes(b[:])) || header.Bytes(h) != b {
					t.Errorf("Of(%v): %v, %v", b, h, header.Bytes(h))
				}
			}
		}
	}
}

// R3: the bytes that are handed out are the caller's own.
func TestBytesHandedOut(t *testing.T) {
	h := samples()[0]
	b := header.Bytes(h)
	was := b
	for i := range b {
		b[i] ^= 0xFF
	}
	if header.Bytes(h) != was || header.Of(was) != h {
		t.Errorf("then %v, %v", header.Bytes(h), header.Of(was))
	}
}

// P3.1: each bit is that of the number, the bit 0 the highest one.
func TestBit(t *testing.T) {
	for _, h := range samples() {
		n := whole(h)
		for i := range header.Width {
			want := n.Bit(header.Width-1-i) == 1
			if x, e := header.Bit(h, i); x != want || e != api.OK {
				t.Errorf("Bit(%v, %d): %v %v", h, i, x, e)
			}
		}
	}
}

// P3.1: the first and the last bit of each field.
func TestBitPlaces(t *testing.T) {
	known := []struct {
		header api.Header
		bit    int
	}{
		{api.Header{Src: 1 << 31}, 0}, {api.Header{Src: 1}, 31},
		{api.Header{Dst: 1 << 31}, 32}, {api.Header{Dst: 1}, 63},
		{api.Header{Proto: 1 << 7}, 64}, {api.Header{Proto: 1}, 71},
		{api.Header{SrcPort: 1 << 15}, 72}, {api.Header{SrcPort: 1}, 87},
		{api.Header{DstPort: 1 << 15}, 88}, {api.Header{DstPort: 1}, 103},
	}
	for _, k := range known {
		for i := range header.Width {
			if x, e := header.Bit(k.header, i); x != (i == k.bit) || e != api.OK {
				t.Errorf("Bit(%v, %d): %v %v", k.header, i, x, e)
			}
		}
		if h, e := header.With(api.Header{}, k.bit, true); h != k.header || e != api.OK {
			t.Errorf("With(%d): %v %v", k.bit, h, e)
		}
	}
}

// P3.1: with a bit set so, that bit is so, and no other one is touched.
func TestWith(t *testing.T) {
	for _, h := range samples() {
		n := whole(h)
		for i := range header.Width {
			for bit := range 2 {
				want := fromWhole(new(big.Int).SetBit(n, header.Width-1-i, uint(bit)))
				if g, e := header.With(h, i, bit == 1); g != want || e != api.OK {
					t.Errorf("With(%v, %d, %d): %v %v", h, i, bit, g, e)
				}
			}
		}
	}
}

// P3.3: with one bit turned it is another header, ahead of it or behind it as that bit says.
func TestTurned(t *testing.T) {
	for _, h := range samples() {
		for i := range header.Width {
			set, _ := header.Bit(h, i)
			same, e := header.With(h, i, set)
			if same != h || e != api.OK || header.Cmp(same, h) != 0 {
				t.Errorf("With(%v, %d, %v): %v %v", h, i, set, same, e)
			}
			turned, e := header.With(h, i, !set)
			want := 1
			if set {
				want = -1
			}
			if turned == h || e != api.OK || header.Cmp(turned, h) != want || header.Cmp(h, turned) != -want {
				t.Errorf("With(%v, %d, %v): %v %v", h, i, !set, turned, e)
			}
			if back, e := header.With(turned, i, set); back != h || e != api.OK {
				t.Errorf("With(%v, %d, %v): %v %v", turned, i, set, back, e)
			}
		}
	}
}

// P3.1: a bit that there is not is refused.
func TestBitRefused(t *testing.T) {
	for _, h := range []api.Header{{}, greatest, samples()[0]} {
		for _, i := range []int{-1, -8, -104, math.MinInt, math.MinInt32, 104, 105, 112, 128, 1 << 32, math.MaxInt32, math.MaxInt} {
			if x, e := header.Bit(h, i); x || e != api.ErrArg {
				t.Errorf("Bit(%v, %d): %v %v", h, i, x, e)
			}
			for _, bit := range []bool{false, true} {
				if g, e := header.With(h, i, bit); g != (api.Header{}) || e != api.ErrArg {
					t.Errorf("With(%v, %d, %v): %v %v", h, i, bit, g, e)
				}
			}
		}
	}
}

// P3.1 and P3.4: the order is that of the bits as a number.
func TestCmp(t *testing.T) {
	list := samples()
	numbers := make([]*big.Int, len(list))
	for i, h := range list {
		numbers[i] = whole(h)
	}
	for i, a := range list {
		for k, b := range list {
			if c := header.Cmp(a, b); c != numbers[i].Cmp(numbers[k]) {
				t.Errorf("Cmp(%v, %v): %d", a, b, c)
			}
		}
	}
}

// P3.1: a field that stands ahead counts for more than all behind it.
func TestCmpFields(t *testing.T) {
	rising := []api.Header{
		{}, {DstPort: 1}, {DstPort: 256}, {DstPort: 65535},
		{SrcPort: 1}, {SrcPort: 65535, DstPort: 65535},
		{Proto: 1}, {Proto: 255, SrcPort: 65535, DstPort: 65535},
		{Dst: 1}, {Dst: 1 << 31}, {Dst: math.MaxUint32, Proto: 255, SrcPort: 65535, DstPort: 65535},
		{Src: 1}, {Src: 1 << 31}, {Src: math.MaxUint32}, greatest,
	}
	for i, a := range rising {
		for k, b := range rising {
			want := 0
			if i != k {
				want = 1
			}
			if i < k {
				want = -1
			}
			if c := header.Cmp(a, b); c != want {
				t.Errorf("Cmp(%v, %v): %d", a, b, c)
			}
		}
	}
}

// P3.1 and P3.4: Next is one more as a number, so that none stands between.
func TestNext(t *testing.T) {
	one := big.NewInt(1)
	for _, h := range samples() {
		if h == greatest {
			continue
		}
		g, e := header.Next(h)
		if g != fromWhole(new(big.Int).Add(whole(h), one)) || e != api.OK || header.Cmp(h, g) != -1 || header.Cmp(g, h) != 1 {
			t.Errorf("Next(%v): %v %v", h, g, e)
		}
	}
}

// P3.1: what is carried from field to field.
func TestNextKnown(t *testing.T) {
	known := []struct{ header, next api.Header }{
		{api.Header{}, api.Header{DstPort: 1}},
		{api.Header{DstPort: 255}, api.Header{DstPort: 256}},
		{api.Header{DstPort: 65535}, api.Header{SrcPort: 1}},
		{api.Header{SrcPort: 65535, DstPort: 65535}, api.Header{Proto: 1}},
		{api.Header{Proto: 255, SrcPort: 65535, DstPort: 65535}, api.Header{Dst: 1}},
		{api.Header{Dst: math.MaxUint32, Proto: 255, SrcPort: 65535, DstPort: 65535}, api.Header{Src: 1}},
		{api.Header{Src: 0x0A000001, Dst: 0x0A000002, Proto: 6, SrcPort: 1024, DstPort: 65535}, api.Header{Src: 0x0A000001, Dst: 0x0A000002, Proto: 6, SrcPort: 1025}},
	}
	for _, k := range known {
		if g, e := header.Next(k.header); g != k.next || e != api.OK {
			t.Errorf("Next(%v): %v %v, not %v", k.header, g, e, k.next)
		}
	}
}

// P3.1: behind the greatest one there is none; behind the one ahead of it there is.
func TestNextRefused(t *testing.T) {
	if g, e := header.Next(greatest); g != (api.Header{}) || e != api.ErrNone {
		t.Errorf("Next of the greatest: %v %v", g, e)
	}
	last := greatest
	last.DstPort--
	if g, e := header.Next(last); g != greatest || e != api.OK {
		t.Errorf("Next of the last but one: %v %v", g, e)
	}
}
