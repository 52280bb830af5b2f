package spans

import (
	"math"
	"strconv"
	"strings"

	"waymark/api"
)

// none is the text of the empty set.
const none = "-"

// Text tells a set.
func Text(l []api.Span) string {
	form := Form(l)
	if len(form) == 0 {
		return none
	}
	var b []byte
	for i, s := range form {
		if i > 0 {
			b = append(b, ',')
		}
		b = strconv.AppendUint(b, uint64(s.Lo), 10)
		if s.Lo != s.Hi {
			b = append(b, '-')
			b = strconv.AppendUint(b, uint64(s.Hi), 10)
		}
	}
	return string(b)
}

// Parse reads a set.
func Parse(s string) ([]api.Span, api.Errno) {
	if s == none {
		return nil, api.OK
	}
	var list []api.Span
	for part := range strings.SplitSeq(s, ",") {
		next, ok := span(part)
		if last := len(list) - 1; !ok || last >= 0 && uint64(next.Lo) <= behind(list[last]) {
			return nil, api.ErrForm
		}
		list = append(list, next)
	}
	return list, api.OK
}

// span reads a whole text as a span that is not empty.
func span(s string) (api.Span, bool) {
	low, high, two := strings.Cut(s, "-")
	lo, ok := number(low)
	if !two {
		return api.Span{Lo: lo, Hi: lo}, ok
	}
	hi, also := number(high)
	return api.Span{Lo: lo, Hi: hi}, ok && also && lo < hi
}

// number reads a whole text as a number, without noughts ahead.
func number(s string) (uint32, bool) {
	if s == "" || len(s) > 1 && s[0] == '0' {
		return 0, false
	}
	var n uint64
	for i := range len(s) {
		c := s[i]
		if c < '0' || c > '9' {
			return 0, false
		}
		n = n*10 + uint64(c-'0')
		// Asked at each digit, so that n cannot wrap round however long the text is.
		if n > math.MaxUint32 {
			return 0, false
		}
	}
	return uint32(n), true
}
