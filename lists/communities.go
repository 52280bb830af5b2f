package lists

import (
	"slices"
	"strconv"
	"strings"

	"waymark/api"
)

// Normal is the form of communities.
func Normal(comm []uint32) []uint32 {
	form := append([]uint32(nil), comm...)
	slices.Sort(form)
	return slices.Compact(form)
}

// Join is the form of communities together.
func Join(a, b []uint32) []uint32 {
	return Normal(slices.Concat(a, b))
}

// Text is a community's text.
func Text(c uint32) string {
	return halfText(c>>16) + ":" + halfText(c&0xFFFF)
}

// Parse is the community of a text.
func Parse(s string) (uint32, api.Errno) {
	high, low, _ := strings.Cut(s, ":")
	c := half(high)<<16 | half(low)
	// The halves were not asked whether they are numbers of their form: if one is not, what was read has another text.
	if Text(c) != s {
		return 0, api.ErrForm
	}
	return c, api.OK
}

// halfText is the text of sixteen bits.
func halfText(n uint32) string {
	return strconv.FormatUint(uint64(n), 10)
}

// half reads a text as sixteen bits, also if it tells none.
func half(s string) uint32 {
	n, _ := strconv.ParseUint(s, 10, 16)
	return uint32(n)
}
