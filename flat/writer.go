package flat

import (
	"strconv"
	"strings"

	"waymark/addr"
	"waymark/api"
	"waymark/lists"
)

// text says a device that has words. Each thing is said by as few bytes as may be, so that what can be said in a text of lex's bounds at all is.
func text(d api.Device) string {
	var w writer
	w.line("hostname " + d.Name)
	each(d.VRFs, w.vrf)
	each(d.Filters, w.filter)
	each(d.Ifaces, w.iface)
	each(d.Rewrites, w.rewrite)
	each(d.Statics, w.static)
	each(d.Prefixes, w.prefixes)
	each(d.Communities, w.communities)
	each(d.Policies, w.policy)
	each(d.OSPF, w.ospf)
	each(d.BGP, w.bgp)
	s := w.b.String()
	if len(s) == api.MaxText+1 {
		// The last line may go without its end.
		s = s[:api.MaxText]
	}
	return s
}

// each writes all things of a list.
func each[T any](list []T, write func(T)) {
	for _, x := range list {
		write(x)
	}
}

// writer writes lines, up to where the text is too long whatever follows.
type writer struct{ b strings.Builder }

func (w *writer) line(s string) {
	if w.b.Len() <= api.MaxText+1 {
		w.b.WriteString(s)
		w.b.WriteByte('\n')
	}
}

// flag writes a line, if it is to be said.
func (w *writer) flag(line string, said bool) {
	if said {
		w.line(line)
	}
}

// number writes a line that ends with a number, if it isn't the one that holds where none is said.
func (w *writer) number(line string, n, unsaid int) {
	w.flag(line+" "+strconv.Itoa(n), n != unsaid)
}

// name writes a line with a name in its midst, if there is one.
func (w *writer) name(ahead, name, behind string) {
	w.flag(ahead+" "+name+behind, name != "")
}

// What follows is what stands within a line: a blank is ahead of each word.

// option is what a line says by a word and a number, if it isn't the one that holds where none is said.
func option(word string, n, unsaid int) string {
	if n == unsaid {
		return ""
	}
	return " " + word + " " + strconv.Itoa(n)
}

// named is what a line says by a word and a name, if there is one.
func named(word, name string) string {
	if name == "" {
		return ""
	}
	return " " + word + " " + name
}

// permission is what a line says that permits or denies.
func permission(permit bool) string {
	if permit {
		return " permit"
	}
	return " deny"
}

// masked is a prefix as an address and a mask.
func masked(p api.Prefix) string {
	mask, _ := addr.Mask(p.Bits)
	return " " + addr.Text(p.Addr) + " " + addr.Text(mask)
}

// communityTexts are a list's texts.
func communityTexts(list []uint32) string {
	var b strings.Builder
	for _, c := range list {
		b.WriteString(" " + lists.Text(c))
	}
	return b.String()
}

// numbers are a list's texts.
func numbers(list []uint32) string {
	var b strings.Builder
	for _, n := range list {
		b.WriteString(" " + strconv.FormatUint(uint64(n), 10))
	}
	return b.String()
}
