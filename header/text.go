package header

import (
	"strconv"
	"strings"

	"waymark/addr"
	"waymark/api"
)

// Text is a header's text.
func Text(h api.Header) string {
	return endText(h.Src, h.SrcPort) + " " + endText(h.Dst, h.DstPort) + " " + strconv.Itoa(int(h.Proto))
}

// Parse is the header of a text.
func Parse(s string) (api.Header, api.Errno) {
	// What is missing comes out empty, which is no end and no number.
	from, rest, _ := strings.Cut(s, " ")
	to, proto, _ := strings.Cut(rest, " ")
	src, srcPort, okSrc := end(from)
	dst, dstPort, okDst := end(to)
	n, okProto := number(proto, 8)
	if !okSrc || !okDst || !okProto {
		return api.Header{}, api.ErrForm
	}
	return api.Header{Src: src, Dst: dst, Proto: uint8(n), SrcPort: srcPort, DstPort: dstPort}, api.OK
}

// endText tells an address and a port.
func endText(a api.Addr, port uint16) string {
	return addr.Text(a) + ":" + strconv.Itoa(int(port))
}

// end reads a whole text as an address and a port.
func end(s string) (api.Addr, uint16, bool) {
	ahead, behind, _ := strings.Cut(s, ":")
	a, e := addr.Parse(ahead)
	port, ok := number(behind, 16)
	return a, uint16(port), e == api.OK && ok
}

// number reads a whole text as a number of so many bits.
func number(s string, bits int) (uint64, bool) {
	n, err := strconv.ParseUint(s, 10, bits)
	// Noughts ahead are read too, but are not what the number is written as.
	return n, err == nil && strconv.FormatUint(n, 10) == s
}
