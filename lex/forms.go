package lex

import (
	"strconv"
	"strings"

	"waymark/api"
)

// Number reads a whole text as a number from 0 to most.
func Number(s string, most int) (int, bool) {
	n, err := strconv.Atoi(s)
	// Signs and noughts ahead are read too, but are not what the number is written as.
	if err != nil || n < 0 || n > most || strconv.Itoa(n) != s {
		return 0, false
	}
	return n, true
}

// Name says whether a text is a name.
func Name(s string) bool {
	if s == "" || len(s) > api.MaxName || !letter(s[0]) {
		return false
	}
	for i := range len(s) {
		if !inName(s[i]) {
			return false
		}
	}
	return true
}

// inName says whether a byte may stand in a name.
func inName(c byte) bool {
	return letter(c) || c >= '0' && c <= '9' || strings.IndexByte("-_./", c) >= 0
}

// letter says whether a byte is a letter.
func letter(c byte) bool {
	return c >= 'a' && c <= 'z' || c >= 'A' && c <= 'Z'
}
