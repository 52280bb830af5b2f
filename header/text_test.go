package header_test

import (
	"fmt"
	"math"
	"strconv"
	"strings"
	"testing"

	"waymark/api"
	"waymark/header"
	"waymark/probe"
)

// plainText is a header's text, part by part.
func plainText(h api.Header) string {
	end := func(a api.Addr, port uint16) string {
		return fmt.Sprintf("%d.%d.%d.%d:%d", a>>24, a>>16%256, a>>8%256, a%256, port)
	}
	return fmt.Sprintf("%s %s %d", end(h.Src, h.SrcPort), end(h.Dst, h.DstPort), h.Proto)
}

// P3.2: known headers' texts, and back (P3.3).
func TestTextKnown(t *testing.T) {
	known := []struct {
		text   string
		header api.Header
	}{
		{"10.0.0.1:1024 10.0.0.2:80 6", api.Header{Src: 0x0A000001, Dst: 0x0A000002, Proto: 6, SrcPort: 1024, DstPort: 80}},
		{"0.0.0.0:0 0.0.0.0:0 0", api.Header{}},
		{"255.255.255.255:65535 255.255.255.255:65535 255", greatest},
		{"1.2.3.4:0 0.0.0.0:0 0", api.Header{Src: 0x01020304}},
		{"0.0.0.0:5 0.0.0.0:0 0", api.Header{SrcPort: 5}},
		{"0.0.0.0:0 1.2.3.4:0 0", api.Header{Dst: 0x01020304}},
		{"0.0.0.0:0 0.0.0.0:5 0", api.Header{DstPort: 5}},
		{"0.0.0.0:0 0.0.0.0:0 5", api.Header{Proto: 5}},
	}
	for _, k := range known {
		if s := header.Text(k.header); s != k.text {
			t.Errorf("Text(%v): %q, not %q", k.header, s, k.text)
		}
		if h, e := header.Parse(k.text); h != k.header || e != api.OK {
			t.Errorf("Parse(%q): %v %v", k.text, h, e)
		}
	}
}

// P3.2: the text is the parts' texts; and back (P3.3).
func TestTextAndBack(t *testing.T) {
	for _, h := range samples() {
		s := header.Text(h)
		if s != plainText(h) {
			t.Errorf("Text(%v): %q", h, s)
		}
		if g, e := header.Parse(s); g != h || e != api.OK {
			t.Errorf("Parse(%q): %v %v", s, g, e)
		}
	}
}

// P3.2: each port, each protocol and each byte of an address at its place, and none above.
func TestParseEach(t *testing.T) {
	look := func(s string, fits bool, want api.Header) {
		e := api.OK
		if !fits {
			want, e = api.Header{}, api.ErrForm
		}
		if h, got := header.Parse(s); h != want || got != e {
			t.Errorf("Parse(%q): %v %v", s, h, got)
		}
	}
	for n := range 1<<17 + 10 {
		look("1.2.3.4:"+strconv.Itoa(n)+" 5.6.7.8:9 10", n <= math.MaxUint16, api.Header{Src: 0x01020304, Dst: 0x05060708, Proto: 10, SrcPort: uint16(n), DstPort: 9})
		look("1.2.3.4:11 5.6.7.8:"+strconv.Itoa(n)+" 10", n <= math.MaxUint16, api.Header{Src: 0x01020304, Dst: 0x05060708, Proto: 10, SrcPort: 11, DstPort: uint16(n)})
	}
	for n := range 1100 {
		byAddr := api.Addr(n)
		look("1.2.3.4:11 5.6.7.8:9 "+strconv.Itoa(n), n <= math.MaxUint8, api.Header{Src: 0x01020304, Dst: 0x05060708, Proto: uint8(n), SrcPort: 11, DstPort: 9})
		look("1.2.3."+strconv.Itoa(n)+":11 5.6.7.8:9 10", n <= math.MaxUint8, api.Header{Src: 0x01020300 + byAddr, Dst: 0x05060708, Proto: 10, SrcPort: 11, DstPort: 9})
		look("1.2.3.4:11 "+strconv.Itoa(n)+".6.7.8:9 10", n <= math.MaxUint8, api.Header{Src: 0x01020304, Dst: byAddr<<24 | 0x00060708, Proto: 10, SrcPort: 11, DstPort: 9})
	}
}

// P3.2: texts that are no header's.
func TestParseRefused(t *testing.T) {
	wrong := []string{
		"", " ", "  ", ":", ": : ", ":0 :0 0", "10.0.0.1", "10.0.0.1:1024", "10.0.0.1:1024 10.0.0.2:80", "10.0.0.1:1024 10.0.0.2:80 ", "1024 80 6",
		"10.0.0.1:1024 10.0.0.2:80 6 ", " 10.0.0.1:1024 10.0.0.2:80 6", "10.0.0.1:1024  10.0.0.2:80 6", "10.0.0.1:1024 10.0.0.2:80  6", "10.0.0.1:1024 10.0.0.2:80 6 7",
		"10.0.0.1:1024 10.0.0.2:80 6\n", "10.0.0.1:1024\t10.0.0.2:80\t6", "10.0.0.1:1024 10.0.0.2:80 6\x00", "10.0.0.1:1024,10.0.0.2:80,6",
		"10.0.0.1 10.0.0.2:80 6", "10.0.0.1:1024 10.0.0.2 6", "10.0.0.1 10.0.0.2 6", "10.0.0.1: 10.0.0.2:80 6", "10.0.0.1:1024 10.0.0.2: 6", ":1024 10.0.0.2:80 6", "10.0.0.1:1024 :80 6",
		"10.0.0.1::1024 10.0.0.2:80 6", "10.0.0.1:1024: 10.0.0.2:80 6", "10.0.0.1:1024:1 10.0.0.2:80 6", "10.0.0.1:1024 10.0.0.2:80:1 6", "10.0.0.1:1024 10.0.0.2:80 6:1", "1024:10.0.0.1 80:10.0.0.2 6",
		"10.0.0.1 :1024 10.0.0.2:80 6", "10.0.0.1: 1024 10.0.0.2:80 6", "10.0.0.1.1024 10.0.0.2.80 6", "10.0.0.1/32:1024 10.0.0.2:80 6", "6 10.0.0.1:1024 10.0.0.2:80",
		"10.0.0.1:65536 10.0.0.2:80 6", "10.0.0.1:1024 10.0.0.2:65536 6", "10.0.0.1:1024 10.0.0.2:80 256", "256.0.0.1:1024 10.0.0.2:80 6", "10.0.0.1:1024 10.0.0.256:80 6",
		"10.0.0:1024 10.0.0.2:80 6", "10.0.0.1:1024 10.0.0.2.3:80 6", "010.0.0.1:1024 10.0.0.2:80 6", "10.0.0.1:1024 10.0.0.02:80 6",
		"10.0.0.1:01024 10.0.0.2:80 6", "10.0.0.1:1024 10.0.0.2:080 6", "10.0.0.1:1024 10.0.0.2:80 06", "10.0.0.1:00 10.0.0.2:80 6", "10.0.0.1:1024 10.0.0.2:00 6", "10.0.0.1:1024 10.0.0.2:80 00",
		"10.0.0.1:+1024 10.0.0.2:80 6", "10.0.0.1:1024 10.0.0.2:-80 6", "10.0.0.1:1024 10.0.0.2:80 -6", "10.0.0.1:1024 10.0.0.2:80 -0", "10.0.0.1:1024 10.0.0.2:80 +6",
		"10.0.0.1:1_024 10.0.0.2:80 6", "10.0.0.1:0x10 10.0.0.2:80 6", "10.0.0.1:1e3 10.0.0.2:80 6", "10.0.0.1:1024 10.0.0.2:80 6.0", "10.0.0.1:1024 10.0.0.2:http 6", "10.0.0.1:1024 10.0.0.2:80 tcp",
		"10.0.0.1:4294968320 10.0.0.2:80 6", "10.0.0.1:1024 10.0.0.2:18446744073709551696 6", "10.0.0.1:1024 10.0.0.2:80 18446744073709551622", "10.0.0.1:1024 10.0.0.2:80 262", "10.0.0.1:66560 10.0.0.2:80 6",
		"10.0.0.1:1024 10.0.0.2:80 \u0666", "10.0.0.1:1024 10.0.0.2:80 \xff", "10.0.0.1\uff1a1024 10.0.0.2:80 6", "10.0.0.1:1024\u00a010.0.0.2:80 6",
		"10.0.0.1:" + strings.Repeat("0", 100000) + " 10.0.0.2:80 6", "10.0.0.1:1024 10.0.0.2:" + strings.Repeat("1", 100000) + " 6", "10.0.0.1:1024 10.0.0.2:80 " + strings.Repeat("9", 100000),
		strings.Repeat(" ", 100000), strings.Repeat(":", 100000), strings.Repeat("10.0.0.1:1024 ", 10000),
	}
	for _, s := range wrong {
		if h, e := header.Parse(s); h != (api.Header{}) || e != api.ErrForm {
			t.Errorf("Parse(%.60q): %v %v", s, h, e)
		}
	}
}

// P3.3: what is read as a header is its text, and no other one.
func TestNoOtherText(t *testing.T) {
	read := 0
	look := func(s string) {
		h, e := header.Parse(s)
		if e == api.OK && plainText(h) != s || e != api.OK && (h != (api.Header{}) || e != api.ErrForm) {
			t.Errorf("Parse(%q): %v %v", s, h, e)
		}
		if e == api.OK {
			read++
		}
	}
	// Of the texts of up to four bytes those of numbers alone are read at the place of a port: 0 to 9999.
	probe.Texts("0123456789 :.-", 4, func(s string) { look("10.0.0.1:" + s + " 10.0.0.2:80 6") })
	probe.Texts("0123456789 :.-", 4, func(s string) { look("10.0.0.1:1024 10.0.0.2:" + s + " 6") })
	probe.Texts("0123456789 :.-", 4, func(s string) { look("10.0.0.1:1024 10.0.0.2:80 " + s) })
	if want := 10000 + 10000 + 256; read != want {
		t.Errorf("read %d texts of %d", read, want)
	}
	for _, s := range []string{"0.0.0.0:0 0.0.0.0:0 0", "10.0.0.1:1024 10.0.0.2:80 6", "255.255.255.255:65535 255.255.255.255:65535 255", "25.20.100.9:6553 1.2.3.4:100 25"} {
		probe.Changed(s, look)
	}
}
