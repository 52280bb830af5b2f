package flat_test

import (
	"math/rand"
	"strings"
	"testing"

	"waymark/api"
	"waymark/flat"
	"waymark/lex"
	"waymark/probe"
)

// refused looks whether a text is refused with an error at the first word that stands between < and >, or right behind where <> stands; nothing else is told then.
func refused(t *testing.T, marked string, want api.Errno) {
	t.Helper()
	before, _, _ := strings.Cut(marked, "<")
	pos := api.Pos{Line: 1 + strings.Count(before, "\n"), Col: len(before) - strings.LastIndex(before, "\n")}
	s := strings.NewReplacer("<", "", ">", "").Replace(marked)
	if d, p, e := flat.Parse(s); e != want || p != pos || !alike(d, api.Device{}) {
		t.Errorf("Parse(%q): %v %v %d, not %v %d", s, d, p, e, pos, want)
	}
	agree(t, s)
}

// checkRefused is refused of many texts.
func checkRefused(t *testing.T, want api.Errno, ahead string, marked ...string) {
	t.Helper()
	for _, s := range marked {
		refused(t, ahead+s, want)
	}
}

// P13.5: words that may not stand where they do, and lines that end too early.
func TestRefusedWords(t *testing.T) {
	checkRefused(t, api.ErrWord, "",
		"<foo>", "<Hostname> a", "<address> 1.2.3.4 255.0.0.0", "<match> tag 1", "hostname<>", "hostname a <b>", "hostname <1a>", "hostname <a,b>", "hostname <"+strings.Repeat("n", 33)+">",
		"vrf<>", "vrf a <b>", "interface<>", "interface e0 <up>", "interface <0e>", "ip<>", "ip <vrf>", "ip <address> 1.2.3.4", "ip filter<>", "ip filter f <g>", "ip filter <1>",
		"ip route<>", "ip route vrf<>", "ip route vrf <10.0.0.0> 255.0.0.0 discard", "ip route vrf red<>", "ip route <red> 10.0.0.0", "ip route <10.0.0.0/8> discard", "ip route 10.0.0.0<>", "ip route 10.0.0.0 <8> discard", "ip route 10.0.0.0 255.0.0.0<>",
		"ip route 10.0.0.0 255.0.0.0 <e0>", "ip route 10.0.0.0 255.0.0.0 discard <10.0.0.1>", "ip route 10.0.0.0 255.0.0.0 10.0.0.1 <discard>", "ip route 10.0.0.0 255.0.0.0 discard distance<>", "ip route 10.0.0.0 255.0.0.0 discard distance <01>",
		"ip route 10.0.0.0 255.0.0.0 discard <5>", "ip route 10.0.0.0 255.0.0.0 discard tag 5 <distance> 5", "ip route 10.0.0.0 255.0.0.0 discard tag 5 <tag> 5", "ip route 10.0.0.0 255.0.0.0 discard tag <-1>", "ip route 10.0.0.0 255.0.0.0 discard tag<>",
		"ip route 10.0.0.0 255.0.0.0 <256.0.0.1>", "ip route <010.0.0.0> 255.0.0.0 discard", "ip route vrf a <vrf> b",
		"ip prefix-list<>", "ip prefix-list a<>", "ip prefix-list a <next> 10.0.0.0/8", "ip prefix-list a permit<>", "ip prefix-list a permit <10.0.0.0>", "ip prefix-list a permit <10.0.0.0/33>", "ip prefix-list a permit <10.0.0.0/08>", "ip prefix-list a permit <any>",
		"ip prefix-list a permit 10.0.0.0/8 ge<>", "ip prefix-list a permit 10.0.0.0/8 le<>", "ip prefix-list a permit 10.0.0.0/8 <16>", "ip prefix-list a permit 10.0.0.0/8 le 16 <ge> 9", "ip prefix-list a permit 10.0.0.0/8 ge 9 <ge> 9", "ip prefix-list a permit 10.0.0.0/8 ge <le> 9", "ip prefix-list a permit 10.0.0.0/8 ge 9 le 10 <le>",
		"ip community-list a<>", "ip community-list a deny<>", "ip community-list a <1:1>", "ip community-list a deny <1>", "ip community-list a deny 1:1 <65536:0>", "ip community-list a deny 1:1 <01:1>", "ip community-list a deny 1:1 <deny>",
		"ip nat<>", "ip nat <inside>", "ip nat source<>", "ip nat source <f> to 1.1.1.1", "ip nat source filter<>", "ip nat source filter <1.1.1.1>", "ip nat source filter f<>", "ip nat source filter f <1.1.1.1>", "ip nat source filter f to<>", "ip nat source filter f to <e0>", "ip nat source filter f to 1.1.1.1 <2.2.2.2>",
		"route-map<>", "route-map a<>", "route-map a <10>", "route-map a permit<>", "route-map a permit <x>", "route-map a permit <010>", "route-map a permit 10 <20>", "route-map a <accept> 10",
		"router<>", "router <rip>", "router ospf <1>", "router ospf vrf<>", "router ospf vrf a <b>", "router ospf vrf <1>", "router bgp<>", "router bgp <vrf> a", "router bgp 1 <red>", "router bgp 1 vrf<>", "router bgp 1 vrf red <2>", "router bgp <1.1>",
	)
	checkRefused(t, api.ErrWord, "hostname a\ninterface e0\n",
		" <cost> 1", " <ip> address", " vrf<>", " vrf a <b>", " address<>", " address 1.2.3.4<>", " address 1.2.3.4 255.0.0.0 <x>", " address <1.2.3.4/8>", " address 1.2.3.4 <8>", " address <0255.0.0.0>", " filter<>", " filter f<>", " filter f <both>", " filter f in <out>", " filter <1> in",
		" nat<>", " nat <source>", " nat inside <outside>", " ospf<>", " ospf <0>", " ospf area<>", " ospf area <0.0.0.0>", " ospf area 0 <1>", " ospf cost<>", " ospf cost <->", " ospf cost 1 <1>", " ospf passive <1>", " shutdown <now>", " <no> shutdown", " <hostname> a", " <permit> any any any",
	)
	checkRefused(t, api.ErrWord, "hostname a\nip filter f\n",
		" <next> any any any", " permit<>", " permit <ip> any any", " permit <-1> any any", " permit <06> any any", " permit any<>", " permit any any<>", " permit any <x> any", " permit any host<>", " permit any host <any> any", " permit any host 1.1.1.1<>", " permit any 1.1.1.1<>", " permit any 1.1.1.1 <any>", " permit any any any <any>", " permit any <10.0.0.0/8> any",
		" permit any any any <eq> 80", " permit any any <eq> 80 any", " permit icmp any <range> 1 2 any", " permit 1 any any <eq> 5", " permit 7 any any <eq> 5", " permit 16 any any <range> 5 6", " permit 0 any any <range> 5 6", " permit 255 any <eq> 5 any",
		" permit tcp any eq<>", " permit tcp any eq <any>", " permit tcp any eq 80<>", " permit tcp any eq 80 <81> any", " permit tcp any range<>", " permit tcp any range 5<>", " permit tcp any range 5 <any>", " permit udp any any eq<>", " permit udp any any eq 5 <eq> 6", " permit udp any any range 5 6 <7>", " permit 6 any any range 5<>", " permit 6 any any <gt> 5", " permit 6 any any eq <http>", " <ip> filter g",
	)
	checkRefused(t, api.ErrWord, "hostname a\nroute-map p permit 10\n",
		" <permit>", " match<>", " match <pref>", " match <preference> 1", " match prefix-list<>", " match prefix-list a <b>", " match prefix-list <1>", " match community-list<>", " match community-list a <b>", " match tag<>", " match tag 1 <2>", " match tag <x>", " match metric<>", " match metric 1 <2>", " match as<>", " match as 1 <2>", " match <community> 1:1",
		" set<>", " set <as> 1", " set metric<>", " set metric <+5>", " set metric 1 <2>", " set preference<>", " set preference 1 <2>", " set tag<>", " set tag 1 <2>", " set community<>", " set community add<>", " set community <none>", " set community 1:1 <add>", " set community add <add> 1:1", " set community 1:1 <2>", " set prepend<>", " set prepend 1 <x>", " set prepend 1 2 <1:1>",
		" set next-hop<>", " set next-hop <self>", " set next-hop 1.1.1.1 <2.2.2.2>", " continue<>", " continue <next>", " continue 20 <30>", " <description> x",
	)
	checkRefused(t, api.ErrWord, "hostname a\nrouter ospf\n",
		" <network> 10.0.0.0 255.0.0.0", " <neighbor> 1.1.1.1 as 1", " router-id<>", " router-id <1>", " router-id 1.1.1.1 <2>", " redistribute<>", " redistribute <ospf>", " redistribute static <5>", " redistribute static metric<>", " redistribute static type<>", " redistribute static route-map<>", " redistribute static type 1 <metric> 1", " redistribute static route-map p <type> 1", " redistribute static route-map p <metric> 1", " redistribute static route-map p <q>", " redistribute static type <x>", " redistribute static metric 1 <metric> 1", " redistribute static route-map <1>",
	)
	checkRefused(t, api.ErrWord, "hostname a\nrouter bgp 1\n neighbor 1.1.1.1 as 5\n",
		" <area> 1", " router-id<>", " network<>", " network 10.0.0.0<>", " network <10.0.0.0/8>", " network 10.0.0.0 255.0.0.0 <x>", " network 10.0.0.0 <mask> 255.0.0.0", " redistribute <bgp>", " redistribute static <type> 1", " redistribute ospf metric<>",
		" neighbor<>", " neighbor <a> as 1", " neighbor 1.1.1.1<>", " neighbor 1.1.1.1 <remote-as> 1", " neighbor 2.2.2.2 as<>", " neighbor 2.2.2.2 as <x>", " neighbor 2.2.2.2 as 1 <2>", " neighbor 1.1.1.1 route-map<>", " neighbor 1.1.1.1 route-map p<>", " neighbor 1.1.1.1 route-map p <both>", " neighbor 1.1.1.1 route-map p in <out>", " neighbor 1.1.1.1 route-map <1> in", " neighbor 1.1.1.1 client <x>", " neighbor 1.1.1.1 next-hop-self <x>",
	)
}

const large = "99999999999999999999999999999999"

// P13.5: numbers past their ends, however large.
func TestRefusedNumbers(t *testing.T) {
	checkRefused(t, api.ErrNumber, "hostname a\n",
		"ip route 10.0.0.0 255.0.0.0 <0.0.0.0>", "ip route 10.0.0.0 255.0.0.0 discard distance <0>", "ip route 10.0.0.0 255.0.0.0 discard distance <256>", "ip route 10.0.0.0 255.0.0.0 discard tag <16777217>", "ip route 10.0.0.0 255.0.0.0 discard tag <"+large+">", "ip route 10.0.0.0 255.0.0.0 discard tag <9223372036854775808>",
		"ip prefix-list a permit 10.0.0.0/8 ge <7>", "ip prefix-list a permit 10.0.0.0/8 ge <33>", "ip prefix-list a permit 10.0.0.0/8 le <7>", "ip prefix-list a permit 10.0.0.0/8 le <33>", "ip prefix-list a permit 10.0.0.0/8 ge 16 le <15>", "ip prefix-list a permit 10.0.0.0/8 ge 16 le <33>", "ip prefix-list a permit 10.0.0.0/8 ge <0>", "ip prefix-list a permit 10.0.0.0/8 le <"+large+">",
		"route-map a permit <0>", "route-map a permit <65536>", "route-map a permit <"+large+">", "router bgp <0>", "router bgp <4294967296>", "router bgp <"+large+"> foo",
		"interface e0\n ospf area <16777217>", "interface e0\n ospf cost <0>", "interface e0\n ospf cost <65536>", "interface e0\n ospf cost <"+large+">",
		"ip filter f\n permit <256> any any", "ip filter f\n permit <"+large+"> any any", "ip filter f\n permit tcp any eq <65536> any", "ip filter f\n permit udp any range <65536> 1 any", "ip filter f\n permit udp any range 5 <4> any", "ip filter f\n permit udp any range 5 <65536> any", "ip filter f\n permit 17 any any range 65535 <65534>", "ip filter f\n permit 17 any any eq <"+large+">",
		"router ospf\n redistribute static metric <16777217>", "router ospf\n redistribute static type <0>", "router ospf\n redistribute static type <3>", "router ospf\n redistribute static type <257>", "router bgp 1\n redistribute static metric <16777217>", "router bgp 1\n neighbor 1.1.1.1 as <0>", "router bgp 1\n neighbor 1.1.1.1 as <4294967296>",
	)
	checkRefused(t, api.ErrNumber, "hostname a\nroute-map p permit 10\n",
		" match tag <16777217>", " match metric <16777217>", " match as <0>", " match as <4294967296>", " set metric <16777217>", " set preference <16777217>", " set tag <16777217>", " set prepend <0>", " set prepend 1 <4294967296>", " set prepend 5 <0> x", " set next-hop <0.0.0.0>", " continue <10>", " continue <9>", " continue <0>", " continue <65536>", " continue <"+large+">",
	)
	checkRefused(t, api.ErrNumber, "route-map p permit 65535\n", " continue <65535>", " continue <65536>")
	checkRefused(t, api.ErrNumber, "route-map p permit 10\nroute-map p permit 5\nroute-map q permit 3\n continue 4\nroute-map p deny 20\n", " continue <20>")
}

// P13.5: what is no mask, and bits behind one.
func TestRefusedMasks(t *testing.T) {
	checkRefused(t, api.ErrMask, "hostname a\n",
		"ip route 10.0.0.1 <255.0.0.0> discard", "ip route 10.0.0.0 <255.0.255.0> discard", "ip route 10.0.0.0 <0.255.255.255> discard", "ip route 0.0.0.1 <0.0.0.0> discard", "ip route 10.0.0.1 <255.255.255.254> x y", "ip route vrf r 10.0.0.0 <0.0.0.1> discard", "ip route 10.0.0.0 <254.0.0.1> discard",
		"ip prefix-list a permit <10.0.0.1/8>", "ip prefix-list a permit <0.0.0.1/0> ge 99", "ip prefix-list a permit <255.255.255.255/31>",
		"interface e0\n address 10.0.0.1 <0.0.0.0>", "interface e0\n address 10.0.0.1 <255.0.255.0>", "interface e0\n address 10.0.0.1 <0.0.0.255>", "interface e0\n address 0.0.0.0 <0.0.0.0>",
		"router bgp 1\n network 10.0.0.1 <255.0.0.0>", "router bgp 1\n network 10.0.0.0 <255.0.255.0> x", "router bgp 1\n network 0.0.0.1 <0.0.0.0>",
		"ip filter f\n permit any 10.0.0.1 <0.255.255.255> any", "ip filter f\n permit any any 10.0.0.0 <255.0.0.0>", "ip filter f\n permit any 10.0.0.0 <0.255.0.255> any", "ip filter f\n permit any 0.0.0.1 <255.255.255.255> any", "ip filter f\n permit tcp 10.0.0.3 <0.0.0.1> eq x",
	)
}

// P13.5: lines that stand too far in, or in no block.
func TestRefusedBlanks(t *testing.T) {
	checkRefused(t, api.ErrBlank, "",
		" <hostname> a", "  <hostname> a", "\n\n!\n <x>", "hostname a\n <address> 1.2.3.4 255.0.0.0", "interface e0\n shutdown\n  <shutdown>", "interface e0\n  <shutdown>", "interface e0\nvrf a\n <shutdown>", "interface e0\nip route 10.0.0.0 255.0.0.0 discard\n <shutdown>",
		"ip filter f\nip prefix-list a permit 10.0.0.0/8\n <permit> any any any", "ip filter f\nip community-list a permit 1:1\n <permit> any any any", "ip filter f\nip nat source filter f to 1.1.1.1\n <permit> any any any", "route-map a permit 1\nhostname a\n <match> tag 1", "      <!> x"[:6]+"<hostname>",
	)
}

// P13.5: what may stand once stands twice.
func TestRefusedTwice(t *testing.T) {
	checkRefused(t, api.ErrTwice, "",
		"hostname a\n<hostname> a", "hostname a\n<hostname> b", "hostname a\nvrf hostname\ninterface hostname\n<vrf> hostname", "interface e\nvrf e\nip filter e\n<interface> e", "ip filter e\nip filter f\n<ip> filter e",
		"route-map p permit 10\nroute-map p permit 1\nroute-map q permit 10\n<route-map> p deny 10", "router ospf\nrouter ospf vrf a\nrouter bgp 1\n<router> ospf", "router ospf vrf a\nrouter ospf vrf b\n<router> ospf vrf a", "router bgp 1\nrouter bgp 1 vrf a\n<router> bgp 2", "router bgp 1 vrf a\nrouter bgp 1\n<router> bgp 2 vrf a",
	)
	// In a block: each of these lines may stand there once, and none again that is one of the others in its row.
	for block, rows := range map[string][][]string{
		"interface e0": {{"vrf a", "vrf b"}, {"address 1.2.3.4 255.0.0.0", "address 1.2.3.5 255.0.0.0"}, {"filter f in", "filter g in"}, {"filter f out", "filter g out"}, {"nat inside", "nat outside", "nat inside"}, {"ospf area 0", "ospf area 1"}, {"ospf cost 10", "ospf cost 10"}, {"ospf passive", "ospf passive"}, {"shutdown", "shutdown"}},
		"route-map p permit 10": {{"match prefix-list a", "match prefix-list b"}, {"match community-list a", "match community-list a"}, {"match tag 1", "match tag 2"}, {"match metric 1", "match metric 2"}, {"match as 1", "match as 2"},
			{"set metric 1", "set metric 2"}, {"set preference 1", "set preference 2"}, {"set tag 1", "set tag 2"}, {"set community 1:1", "set community add 1:1", "set community 1:2"}, {"set prepend 1", "set prepend 2 3"}, {"set next-hop 1.1.1.1", "set next-hop 1.1.1.2"}, {"continue 20", "continue 30"}},
		"router ospf": {{"router-id 0.0.0.0", "router-id 1.1.1.2", "router-id 0.0.0.0"}},
		"router bgp 1": {{"router-id 1.1.1.1", "router-id 1.1.1.2"}, {"network 10.0.0.0 255.0.0.0", "network 10.0.0.0 255.0.0.0"}, {"network 10.0.0.0 255.255.0.0", "network 10.0.0.0 255.255.0.0"}, {"neighbor 2.2.2.2 as 5", "neighbor 2.2.2.2 as 6"}, {"neighbor 1.1.1.1 as 5", "neighbor 1.1.1.1 as 6"},
			{"neighbor 2.2.2.2 client", "neighbor 2.2.2.2 client"}, {"neighbor 2.2.2.2 next-hop-self", "neighbor 2.2.2.2 next-hop-self"}, {"neighbor 2.2.2.2 route-map a in", "neighbor 2.2.2.2 route-map b in"}, {"neighbor 2.2.2.2 route-map a out", "neighbor 2.2.2.2 route-map b out"}, {"neighbor 1.1.1.1 client", "neighbor 1.1.1.1 client"}, {"neighbor 1.1.1.1 route-map a out", "neighbor 1.1.1.1 route-map a out"}},
	} {
		all := "hostname h\n" + block + "\n"
		for _, row := range rows {
			all += " " + row[0] + "\n"
			for _, again := range row[1:] {
				word, rest, _ := strings.Cut(again, " ")
				refused(t, all+" <"+word+"> "+rest, api.ErrTwice)
				refused(t, all+" <"+word+"> "+rest+"\n foo", api.ErrTwice)
			}
		}
		if _, _, e := flat.Parse(all); e != api.OK {
			t.Errorf("Parse(%q): %v", all, e)
		}
		for _, row := range rows {
			word, rest, _ := strings.Cut(row[1], " ")
			refused(t, all+" <"+word+"> "+rest, api.ErrTwice)
		}
	}
}

// P13.1: in another block the same may stand again.
func TestOnceInEachBlock(t *testing.T) {
	for _, x := range []struct{ first, second, line string }{
		{"interface a", "interface b", "vrf a"}, {"interface a", "interface b", "shutdown"}, {"interface a", "interface b", "ospf area 0"},
		{"route-map p permit 1", "route-map p permit 2", "match tag 1"}, {"route-map p permit 1", "route-map q permit 1", "continue 2"},
		{"router ospf", "router ospf vrf a", "router-id 1.1.1.1"}, {"router bgp 1", "router bgp 1 vrf a", "network 10.0.0.0 255.0.0.0"}, {"router bgp 1", "router ospf", "router-id 1.1.1.1"}, {"router bgp 1", "router bgp 1 vrf a", "neighbor 1.1.1.1 as 1"},
	} {
		s := "hostname a\n" + x.first + "\n " + x.line + "\n" + x.second + "\n " + x.line + "\n"
		if _, _, e := flat.Parse(s); e != api.OK {
			t.Errorf("Parse(%q): %v", s, e)
		}
	}
}

// P13.5: neighbours that are not there, in their block.
func TestRefusedNeighbors(t *testing.T) {
	checkRefused(t, api.ErrRef, "hostname a\nrouter bgp 1\n",
		" <neighbor> 1.1.1.1 client", " <neighbor> 1.1.1.1 next-hop-self", " <neighbor> 1.1.1.1 route-map p in", " <neighbor> 1.1.1.1 route-map p out", " neighbor 1.1.1.1 as 1\n <neighbor> 1.1.1.2 client", " neighbor 1.1.1.1 as 1\nrouter bgp 2 vrf a\n <neighbor> 1.1.1.1 client", " <neighbor> 1.1.1.1 client\n neighbor 1.1.1.1 as 1", " neighbor 1.1.1.1 as 1\n <neighbor> 0.0.0.0 client",
	)
}

// Of several errors the chapter's first: what lex refuses, wherever; line by line; word by word; what is whole; the hostname behind all.
func TestRefusedInOrder(t *testing.T) {
	refused(t, "interface e0\n ospf cost <0> foo\nhostname a", api.ErrNumber)
	refused(t, "interface e0\n ospf cost 1 <foo>\nhostname a", api.ErrWord)
	refused(t, "ip route 10.0.0.1 <255.0.0.0> 0.0.0.0 x", api.ErrMask)
	refused(t, "ip route 10.0.0.0 255.0.0.0 <0.0.0.0> x", api.ErrNumber)
	refused(t, "hostname a\nhostname b <c>", api.ErrWord)
	refused(t, "hostname a\nhostname <1>", api.ErrWord)
	refused(t, "hostname a\n<hostname> b\nfoo", api.ErrTwice)
	refused(t, "hostname a\n <hostname> b x", api.ErrBlank)
	refused(t, "router bgp 1\n neighbor 1.1.1.1 client <x>", api.ErrWord)
	refused(t, "router bgp 1\n neighbor 1.1.1.1 route-map p<>", api.ErrWord)
	refused(t, "interface e0\n ospf cost 5\n ospf cost <0>", api.ErrNumber)
	refused(t, "ip filter f\nip filter f <g>", api.ErrWord)
	refused(t, "vrf a\n<vrf> a", api.ErrTwice)
	for _, s := range []string{"", "\n", "! hostname a", "vrf a", "interface hostname\n shutdown", "route-map p permit 10\n continue 20"} {
		if d, pos, e := flat.Parse(s); e != api.ErrNone || pos != (api.Pos{}) || !alike(d, api.Device{}) {
			t.Errorf("Parse(%q): %v %v %v", s, d, pos, e)
		}
	}
	for s, want := range map[string]api.Pos{"foo\nhostname\n\x01": {Line: 3, Col: 1}, "hostname a\nhostname b\n x\t": {Line: 3, Col: 3}, "hostname \xff": {Line: 1, Col: 10}, "foo \xff": {Line: 1, Col: 5}} {
		if _, pos, e := flat.Parse(s); e != api.ErrBlank || pos != want {
			t.Errorf("Parse(%q): %v %v", s, pos, e)
		}
	}
	many := strings.Repeat("\n", api.MaxLines)
	for s, want := range map[string]api.Pos{
		strings.Repeat(" ", api.MaxText+1): {}, "foo" + strings.Repeat(" ", api.MaxText-2): {}, "foo" + many + "x": {Line: api.MaxLines + 1, Col: 1}, "foo" + many + "\x01": {Line: api.MaxLines + 1, Col: 1},
	} {
		if _, pos, e := flat.Parse(s); e != api.ErrFull || pos != want {
			t.Errorf("Parse(%.9q ..): %v %v", s, pos, e)
		}
	}
	for _, s := range []string{"hostname a" + strings.Repeat("\n", api.MaxLines), "hostname a" + strings.Repeat(" ", api.MaxText-10)} {
		if d, _, e := flat.Parse(s); e != api.OK || d.Name != "a" {
			t.Errorf("Parse(%.12q ..): %v %v", s, d, e)
		}
	}
}

// whole is a text with each statement, and each thing that it may leave out.
const whole = `hostname r1
vrf red
vrf blue
interface e0
 vrf red
 address 10.0.0.1 255.255.255.0
 filter web in
 filter all out
 nat inside
 ospf area 0
 ospf cost 7
 ospf passive
 shutdown
interface e1
 nat outside
ip route 10.0.0.0 255.0.0.0 10.0.0.9
ip route vrf red 0.0.0.0 0.0.0.0 discard distance 9 tag 5
ip filter all
ip filter web
 permit any any any
 deny tcp host 10.0.0.1 eq 80 10.0.0.0 0.255.255.255 range 5 6
 permit 17 any range 7 8 any eq 9
 permit 0 any any
ip prefix-list pl permit 10.0.0.0/8
ip prefix-list pl deny 10.0.0.0/8 ge 9 le 24
ip prefix-list pl deny 10.0.0.0/8 le 24
ip community-list cl permit 1:2 3:4
ip community-list cl deny 0:0
ip nat source filter web to 1.2.3.4
ip nat destination filter all to 4.3.2.1
route-map p permit 20
 match prefix-list pl
 match community-list cl
 match tag 1
 match metric 2
 match as 3
 set metric 4
 set preference 5
 set tag 6
 set community add 1:1 2:2
 set prepend 7 8
 set next-hop 9.9.9.9
 continue 30
route-map p deny 10
 set community 1:1
route-map p next 30
router ospf
 router-id 1.1.1.1
 redistribute connected
 redistribute static metric 5 type 1 route-map p
router ospf vrf red
 router-id 1.1.1.2
 redistribute bgp
router bgp 65000 vrf red
 router-id 1.1.1.3
 network 10.0.0.0 255.0.0.0
 neighbor 2.2.2.2 as 65000
 neighbor 2.2.2.2 route-map p in
 neighbor 2.2.2.2 route-map p out
 neighbor 2.2.2.2 client
 neighbor 2.2.2.2 next-hop-self
 redistribute ospf metric 5 route-map p
`

// P13.5: a text in which any word is another one, left out, or stands twice; a line that stands further in or out, is left out, or stands twice.
func TestEachWordChanged(t *testing.T) {
	agree(t, whole)
	others := []string{"x", "0", "1", "99", "65536", "4294967296", "0.0.0.0", "10.0.0.1", "255.255.0.0", "0.0.0.255", "10.0.0.1/8", "permit", "any", "host", "eq", "in", "1:1", "vrf", "a b", "", "!", "red", "p"}
	lines := strings.SplitAfter(whole, "\n")
	lines = lines[:len(lines)-1]
	for i, l := range lines {
		head, rest := strings.Join(lines[:i], ""), strings.Join(lines[i+1:], "")
		for _, other := range []string{"", " " + l, l[1:], l + l} {
			agree(t, head+other+rest)
		}
		words := strings.SplitAfter(strings.TrimSuffix(l, "\n"), " ")
		for k, w := range words {
			ahead, behind := head+strings.Join(words[:k], ""), strings.Join(words[k+1:], "")+"\n"+rest
			for _, o := range append([]string{w + w, w + "x", strings.ToUpper(w)}, others...) {
				agree(t, ahead+o+" "+behind)
			}
		}
	}
}

// P13.5: whatever stands behind the line that is refused, the same is refused there.
func TestRefusedWhateverFollows(t *testing.T) {
	r := rand.New(rand.NewSource(5))
	for range 1500 {
		s := anyText(r, 25, 5)
		_, pos, e := flat.Parse(s)
		if e == api.OK || pos.Line == 0 {
			continue
		}
		upTo := strings.Join(strings.SplitAfter(s, "\n")[:pos.Line], "")
		for range 4 {
			other := upTo + anyText(r, 5, 2) + pick(r, "", "\n", "foo\n", "      foo", "! x", "\n hostname\n")
			if d, p, x := flat.Parse(other); p != pos || x != e || !alike(d, api.Device{}) {
				t.Fatalf("Parse(%q): %v %v, not %v %v", other, p, x, pos, e)
			}
		}
	}
}

// P13.4: more blanks between words, lines without words and notes change no device, and what is refused only by its place.
func TestBlanksAndNotes(t *testing.T) {
	r := rand.New(rand.NewSource(4))
	texts := []string{whole, "hostname a\ninterface e0\n foo", "hostname", "hostname a b"}
	for range 400 {
		texts = append(texts, anyText(r, 25, 20))
	}
	for _, s := range texts {
		d, pos, e := flat.Parse(s)
		more := ""
		for _, l := range strings.SplitAfter(s, "\n") {
			for range r.Intn(3) {
				more += pick(r, "\n", "   \n", "!\n", "! hostname x\n", "   ! foo\n", "!foo\n", " !\n")
			}
			words := strings.Split(l, " ")
			for i, w := range words {
				if i > 0 {
					more += " "
				}
				if i > 0 && words[i-1] != "" {
					more += strings.Repeat(" ", r.Intn(3))
				}
				more += w
			}
			more = strings.TrimSuffix(more, "\n") + strings.Repeat(" ", r.Intn(3)) + "\n"
		}
		d2, pos2, e2 := flat.Parse(more)
		if e2 != e || !alike(d, d2) || (pos.Line == 0) != (pos2.Line == 0) || wordAt(s, pos) != wordAt(more, pos2) {
			t.Fatalf("Parse(%q): %v %v %v, not %v %v %v", more, d2, pos2, e2, d, pos, e)
		}
	}
}

// wordAt is the word at a place of a text.
func wordAt(s string, p api.Pos) string {
	l, _, _ := lex.Lines(s)
	for _, x := range l {
		for _, w := range x.Words {
			if w.Pos == p {
				return w.Text
			}
		}
	}
	return ""
}

// R1: each call answers, whatever the text: all short ones, and a long one with any byte changed.
func TestAnyBytes(t *testing.T) {
	probe.Texts("a1 \n!.\x00\xff", 5, func(s string) { flat.Parse(s) })
	small := "hostname a\nroute-map p permit 1\n set prepend 1\n continue 2\nrouter bgp 1\n neighbor 1.1.1.1 as 1\n neighbor 1.1.1.1 client\n"
	probe.Changed(small, func(s string) {
		d, pos, e := flat.Parse(s)
		if e == api.OK != (pos == api.Pos{}) && e != api.ErrNone || e != api.OK && !alike(d, api.Device{}) {
			t.Errorf("Parse(%q): %v %v %v", s, d, pos, e)
		}
		if _, _, no := lex.Lines(s); no == api.OK {
			agree(t, s)
		}
	})
}
