// Package probe makes the texts and the networks on which the layers' tests try them.
package probe

// Texts goes through all texts of up to most bytes of an alphabet.
func Texts(alphabet string, most int, visit func(string)) {
	layer := []string{""}
	for range most + 1 {
		var longer []string
		for _, s := range layer {
			visit(s)
			for i := range len(alphabet) {
				longer = append(longer, s+alphabet[i:i+1])
			}
		}
		layer = longer
	}
}

// Changed goes through all texts that are one byte's change away from s: one left out, one put in, one made another.
func Changed(s string, visit func(string)) {
	for i := range len(s) + 1 {
		for k := range 256 {
			put := string([]byte{byte(k)})
			visit(s[:i] + put + s[i:])
			if i < len(s) {
				visit(s[:i] + put + s[i+1:])
			}
		}
		if i < len(s) {
			visit(s[:i] + s[i+1:])
		}
	}
}
