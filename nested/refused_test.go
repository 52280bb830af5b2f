package nested_test

import (
	"math/rand"
	"slices"
	"strings"
	"testing"

	"waymark/api"
	"waymark/lex"
	"waymark/nested"
	"waymark/probe"
	"waymark/tree"
)

// refused looks whether a text is refused with an error at the word that stands between < and >; nothing else is told then.
func refused(t *testing.T, marked string, want api.Errno) {
	t.Helper()
	before, _, _ := strings.Cut(marked, "<")
	pos := api.Pos{Line: 1 + strings.Count(before, "\n"), Col: len(before) - strings.LastIndex(before, "\n")}
	s := strings.NewReplacer("<", "", ">", "").Replace(marked)
	if d, p, e := nested.Parse(s); e != want || p != pos || !alike(d, api.Device{}) {
		t.Errorf("Parse(%q): %v %v %d, not %v %d", s, d, p, e, pos, want)
	}
	agree(t, s)
}

// checkRefused is refused of many texts, within blocks.
func checkRefused(t *testing.T, want api.Errno, blocks string, marked ...string) {
	t.Helper()
	open := ""
	for _, b := range strings.Split(blocks, "|") {
		if b != "" {
			open += b + " { "
		}
	}
	for _, s := range marked {
		refused(t, "system { host-name a; }\n"+open+s+strings.Repeat(" }", strings.Count(open, "{")), want)
	}
}

const (
	inIface  = "interfaces|e0"
	inFilter = "firewall|filter f"
	inRule   = "firewall|filter f|term t"
	inFits   = "firewall|filter f|term t|from"
	inList   = "policy|prefix-list p"
	inComm   = "policy|community c"
	inPolicy = "policy|statement s"
	inClause = "policy|statement s|term t"
	inAsks   = "policy|statement s|term t|from"
	inSets   = "policy|statement s|term t|then"
	inOSPF   = "protocols|ospf"
	inBGP    = "protocols|bgp"
	inPeer   = "protocols|bgp|neighbor 1.1.1.1"
)

// Words that may not stand where they do.
func TestRefusedWords(t *testing.T) {
	checkRefused(t, api.ErrWord, "",
		"<foo>;", "<foo> { }", "<System> { }", "<hostname> a;", "<\"\"> { }", "<e0> { }", "<filter> f { }", "system <a> { }", "instances <red> { }", "interfaces <e0> { }", "firewall <filter> f { }", "nat <source> { }", "routes <a> { }", "policy <p> { }", "protocols <ospf> { }", "interfaces <\"{\"> { }", "<groups>;", "<groups> x { }", "<\"system \"> { }",
		"system { <hostname> a; }", "system { host-name <1a>; }", "system { host-name <\"a b\">; }", "system { host-name a <b>; }", "system { <name> { } }", "system { host-name <"+strings.Repeat("n", 33)+">; }",
		"instances { <1>; }", "instances { red <blue>; }", "interfaces { <0e> { } }", "interfaces { e0 <e1> { } }",
	)
	checkRefused(t, api.ErrWord, inIface,
		"<cost> 1;", "<ospf> area 0;", "<vrf> a;", "<shutdown>;", "instance <1>;", "instance a <b>;", "address <10.0.0.1>;", "address <10.0.0.1/>;", "address </24>;", "address <10.0.0.1/024>;", "address <10.0.0.1/24/24>;", "address <10.0.0.256/24>;", "address <010.0.0.1/24>;", "address <10.0.0.1/x>;", "address <10.0.0.1/-1>;", "address 10.0.0.1/24 <x>;", "address <10.0.0/24>;", "address <10.0.0/33>;", "address <10.0.0.1/00>;", "address <10.0.0.1/33/1>;",
		"filter <in> f;", "filter <f>;", "filter input <1>;", "filter output f <g>;", "filter input f <input>;", "nat <plain>;", "nat inside <outside>;", "nat <source>;", "area <a>;", "area <0.0.0.0>;", "area <00>;", "area <-1>;", "area 0 <1>;", "metric <+1>;", "metric <x>;", "metric 1 <1>;", "passive <on>;", "disable <1>;", "<passives>;", "<unit> 0 { }",
	)
	checkRefused(t, api.ErrWord, "firewall", "<term> t { }", "filter <1> { }", "filter f <g> { }", "<input> f;")
	checkRefused(t, api.ErrWord, inFilter, "<from> { }", "<then> accept;", "term <1> { }", "term t <u> { }")
	checkRefused(t, api.ErrWord, inRule, "<protocol> tcp;", "from <tcp> { }", "then <permit>;", "then <reject>;", "then <next>;", "then accept <discard>;", "<accept>;")
	checkRefused(t, api.ErrWord, inFits,
		"protocol <any>;", "protocol <TCP>;", "protocol <06>;", "protocol <-1>;", "protocol tcp <udp>;", "protocol 6 <7>;", "source <any>;", "source <10.0.0.0>;", "source <10.0.0.0/33>;", "source <10.0.0.0/08>;", "source 10.0.0.0/8 <x>;", "destination <10.0.0/8>;", "destination 10.0.0.0/8 <10.0.0.0/8>;",
		"source-port <any>;", "source-port <->;", "source-port <1->;", "source-port <-1>;", "source-port <1-2-3>;", "source-port <65536-x>;", "source-port <x-65536>;", "source-port <2-01>;", "source-port <65536->;", "source-port <01>;", "source-port <1-02>;", "source-port 1 <2>;", "destination-port <http>;", "destination-port 1-2 <3>;", "<port> 5;", "<from> { }",
	)
	checkRefused(t, api.ErrWord, "nat", "<inside>;", "<f> to 1.1.1.1;", "source <1> to 1.1.1.1;", "source f <1.1.1.1>;", "source f to <1.1.1>;", "source f to <1.1.1.1/32>;", "source f to 1.1.1.1 <2.2.2.2>;", "destination f <from> 1.1.1.1;", "destination <f!> to 1.1.1.1;")
	checkRefused(t, api.ErrWord, "routes",
		"<10.0.0.0/8> discard;", "<static> { }", "route <10.0.0.0> discard;", "route <10.0.0.0/33> discard;", "route 10.0.0.0/8 <10.0.0.1>;", "route 10.0.0.0/8 <reject>;", "route 10.0.0.0/8 next-hop <e0>;", "route 10.0.0.0/8 next-hop <discard>;", "route 10.0.0.0/8 next-hop 1.1.1.1 <discard>;", "route 10.0.0.0/8 discard <5>;", "route 10.0.0.0/8 discard instance <1>;", "route 10.0.0.0/8 discard instance a <instance> b;", "route 10.0.0.0/8 discard preference <x>;", "route 10.0.0.0/8 discard preference 5 <instance> a;", "route 10.0.0.0/8 discard tag 5 <preference> 5;", "route 10.0.0.0/8 discard tag 5 <tag> 5;", "route 10.0.0.0/8 discard tag <05>;", "route 10.0.0.0/8 <instance> a discard;",
	)
	checkRefused(t, api.ErrWord, "policy", "<term> t { }", "<policy-statement> s { }", "prefix-list <1> { }", "prefix-list p <q> { }", "community c <d> { }", "community <1:1> { }", "statement s <t> { }", "statement <.> { }")
	checkRefused(t, api.ErrWord, inList, "<10.0.0.0>;", "<10.0.0.0/33>;", "<p>;", "10.0.0.0/8 <16>;", "10.0.0.0/8 from 9 <upto> 9;", "10.0.0.0/8 upto 9 <upto> 9;", "10.0.0.0/8 from 9 <from> 9;", "10.0.0.0/8 reject <upto> 9;", "10.0.0.0/8 <accept>;", "10.0.0.0/8 reject <reject>;", "10.0.0.0/8 upto <x>;", "10.0.0.0/8 from <from>;", "10.0.0.0/8 upto <reject>;")
	checkRefused(t, api.ErrWord, inComm, "<1:1>;", "<member> 1:1;", "members <1>;", "members 1:1 <65536:0>;", "members <01:1>;", "reject <members> 1:1;", "reject 1:1 <reject>;", "members 1:1 <1:>;")
	checkRefused(t, api.ErrWord, inPolicy, "<accept>;", "default <permit>;", "default <next>;", "default accept <reject>;", "term <10> { }", "term t <u> { }", "<from> { }", "<then> { }")
	checkRefused(t, api.ErrWord, inClause, "<then-all> { }", "then <accept>;", "then <accept> { }", "from <x> { }", "<tag> 5;", "<default> accept;")
	checkRefused(t, api.ErrWord, inAsks, "prefix-list <1>;", "prefix-list a <b>;", "community <1:1>;", "community a <b>;", "tag <x>;", "tag 1 <2>;", "metric <0x1>;", "metric 1 <2>;", "as <one>;", "as 1 <2>;", "<preference> 1;", "<accept>;", "<as-path> 1;")
	checkRefused(t, api.ErrWord, inSets, "accept <all>;", "reject <5>;", "next <term>;", "metric <+5>;", "metric 5 <6>;", "preference <x>;", "preference 5 <6>;", "tag <05>;", "tag 5 <6>;", "community <1:1>;", "community set <add>;", "community set <1>;", "community add 1:1 <add>;", "community <delete> 1:1;", "prepend <x>;", "prepend 1 <1:1>;", "next-hop <self>;", "next-hop 1.1.1.1 <2.2.2.2>;", "next-hop <1.1.1.1/32>;", "<prefix-list> p;", "<discard>;")
	checkRefused(t, api.ErrWord, "protocols", "<rip> { }", "ospf <1> { }", "ospf a <b> { }", "bgp <65000> { }", "bgp a <b> { }", "<\"ospf \"> { }")
	checkRefused(t, api.ErrWord, inOSPF, "<area> 0 { }", "<network> 10.0.0.0/8;", "<local-as> 1;", "router-id <1>;", "router-id 1.1.1.1 <2>;", "export <ospf>;", "export <connected>;", "export static <5>;", "export static type 1 <metric> 1;", "export static policy p <type> 1;", "export static policy p <metric> 1;", "export static policy p <q>;", "export static type <x>;", "export static metric <x>;", "export static metric 1 <metric> 1;", "export static policy <1>;")
	checkRefused(t, api.ErrWord, inBGP, "<area> 0;", "<as> 1;", "router-id <1.1.1>;", "local-as <x>;", "local-as 1 <2>;", "local-as <1.1>;", "network <10.0.0.0>;", "network 10.0.0.0/8 <x>;", "network <10.0.0.0/33>;", "neighbor <a> { }", "neighbor 1.1.1.1 <x> { }", "neighbor <1.1.1.1/32> { }", "export <bgp>;", "export static <type> 1;", "export direct <connected>;")
	checkRefused(t, api.ErrWord, inPeer, "<as> 1;", "<local-as> 1;", "peer-as <x>;", "peer-as 1 <2>;", "import <1>;", "import a <b>;", "export <1>;", "export a <b>;", "export <\"\">;", "client <yes>;", "next-hop-self <x>;", "<next-hop> self;")
}

// Statements that end too early, leaves where blocks must stand, and the other way about: at the first word.
func TestRefusedEnds(t *testing.T) {
	checkRefused(t, api.ErrWord, "", "<system>;", "<instances>;", "<interfaces>;", "<firewall>;", "<nat>;", "<routes>;", "<policy>;", "<protocols>;", "system { <host-name>; }", "system { <host-name> { } }", "system { <host-name> a { } }", "instances { <red> { } }", "interfaces { <e0>; }")
	checkRefused(t, api.ErrWord, inIface, "<instance>;", "<instance> a { }", "<address>;", "<address> 1.1.1.1/8 { }", "<filter>;", "<filter> input;", "<filter> output;", "<filter> output f { }", "<nat>;", "<nat> inside { }", "<area>;", "<area> 0 { }", "<metric>;", "<metric> 1 { area 0; }", "<passive> { }", "<disable> { }")
	checkRefused(t, api.ErrWord, "firewall", "<filter>;", "<filter> { }", "<filter> f;", "filter f { <term>; }", "filter f { <term> { } }", "filter f { <term> t; }")
	checkRefused(t, api.ErrWord, inRule, "<from>;", "<then>;", "<then> { }", "<then> { accept; }", "<then> accept { }")
	checkRefused(t, api.ErrWord, inFits, "<protocol>;", "<protocol> tcp { }", "<source>;", "<source> 10.0.0.0/8 { }", "<destination>;", "<destination> 10.0.0.0/8 { }", "<source-port>;", "<source-port> 1 { }", "<destination-port>;", "<destination-port> 1-2 { }")
	checkRefused(t, api.ErrWord, "nat", "<source>;", "<source> f;", "<source> f to;", "<source> f to 1.1.1.1 { }", "<destination>;", "<destination> f to { }")
	checkRefused(t, api.ErrWord, "routes", "<route>;", "<route> 10.0.0.0/8;", "<route> 10.0.0.0/8 next-hop;", "<route> 10.0.0.0/8 discard { }", "<route> 10.0.0.0/8 discard instance;", "<route> 10.0.0.0/8 discard preference;", "<route> 10.0.0.0/8 discard preference 5 tag;", "<route> 10.0.0.0/8 { }", "<route> 10.0.0.0/8 { discard; }")
	checkRefused(t, api.ErrWord, "policy", "<prefix-list>;", "<prefix-list> { }", "<prefix-list> p;", "<community>;", "<community> { }", "<community> c;", "<statement>;", "<statement> { }", "<statement> s;")
	checkRefused(t, api.ErrWord, inList, "<10.0.0.0/8> { }", "<10.0.0.0/8> upto;", "<10.0.0.0/8> from;", "<10.0.0.0/8> upto 9 from;", "<10.0.0.0/8> upto 9 { }", "<10.0.0.0/8> reject { }")
	checkRefused(t, api.ErrWord, inComm, "<members>;", "<reject>;", "<members> { }", "<members> 1:1 { }", "<reject> 1:1 { }")
	checkRefused(t, api.ErrWord, inPolicy, "<default>;", "<default> accept { }", "<term>;", "<term> { }", "<term> t;")
	checkRefused(t, api.ErrWord, inClause, "<from>;", "<then>;")
	checkRefused(t, api.ErrWord, inAsks, "<prefix-list>;", "<prefix-list> p { }", "<community>;", "<community> c { }", "<tag>;", "<tag> 1 { }", "<metric>;", "<metric> 1 { }", "<as>;", "<as> 1 { }")
	checkRefused(t, api.ErrWord, inSets, "<accept> { }", "<reject> { }", "<next> { }", "<metric>;", "<metric> 1 { }", "<preference>;", "<preference> 1 { }", "<tag>;", "<tag> 1 { }", "<community>;", "<community> set;", "<community> add;", "<community> set 1:1 { }", "<prepend>;", "<prepend> 1 { }", "<next-hop>;", "<next-hop> 1.1.1.1 { }")
	checkRefused(t, api.ErrWord, "protocols", "<ospf>;", "<ospf> a;", "<bgp>;", "<bgp> a;")
	checkRefused(t, api.ErrWord, inOSPF, "<router-id>;", "<router-id> 1.1.1.1 { }", "<export>;", "<export> static { }", "<export> static metric;", "<export> static type;", "<export> static policy;", "<export> static metric 1 type;", "<export> { }")
	checkRefused(t, api.ErrWord, inBGP, "<router-id>;", "<local-as>;", "<local-as> 1 { }", "<network>;", "<network> 10.0.0.0/8 { }", "<neighbor>;", "<neighbor> { }", "<neighbor> 1.1.1.1;", "<export>;", "<export> static metric;", "<export> static policy;", "<export> static { }")
	checkRefused(t, api.ErrWord, inPeer, "<peer-as>;", "<peer-as> 1 { }", "<import>;", "<import> a { }", "<export>;", "<export> a { }", "<client> { }", "<next-hop-self> { }")
}

const large = "99999999999999999999999999999999"

// Numbers past their ends, however large, and addresses that must not be 0.0.0.0.
func TestRefusedNumbers(t *testing.T) {
	checkRefused(t, api.ErrNumber, inIface, "area <16777217>;", "area <"+large+">;", "area <9223372036854775808> x;", "metric <0>;", "metric <65536>;", "metric <"+large+">;", "metric <0> { }")
	checkRefused(t, api.ErrNumber, inIface, "address <10.0.0.1/0>;", "address <10.0.0.1/33>;", "address <0.0.0.0/65535>;", "address <10.0.0.1/"+large+"> x;", "address <10.0.0.1/0> { }")
	for _, port := range []string{"source-port", "destination-port"} {
		for _, w := range []string{"2-1", "80-79", "65536", "0-65536", "65536-65537", "65536-0", "65536-65536", large, large + "-0", "0-" + large} {
			checkRefused(t, api.ErrNumber, inFits, port+" <"+w+">;", port+" <"+w+"> x;")
		}
	}
	checkRefused(t, api.ErrNumber, inFits, "protocol <256>;", "protocol <"+large+">;", "protocol <256> { }")
	checkRefused(t, api.ErrNumber, "routes", "route 10.0.0.0/8 next-hop <0.0.0.0>;", "route 10.0.0.0/8 next-hop <0.0.0.0> x;", "route 10.0.0.0/8 discard preference <0>;", "route 10.0.0.0/8 discard preference <256>;", "route 10.0.0.0/8 discard tag <16777217>;", "route 10.0.0.0/8 next-hop 1.1.1.1 instance a preference 5 tag <"+large+">;")
	checkRefused(t, api.ErrNumber, inList, "10.0.0.0/8 upto <7>;", "10.0.0.0/8 upto <33>;", "10.0.0.0/8 upto <0>;", "10.0.0.0/8 from <7>;", "10.0.0.0/8 from <33>;", "10.0.0.0/8 upto 16 from <17>;", "10.0.0.0/8 upto 16 from <7>;", "10.0.0.0/8 upto <"+large+">;", "10.0.0.0/8 from <"+large+"> reject;", "10.0.0.1/32 upto <31>;", "10.0.0.1/32 from <33>;", "10.0.0.0/8 upto 8 from <9>;")
	checkRefused(t, api.ErrNumber, inAsks, "tag <16777217>;", "metric <16777217>;", "as <0>;", "as <4294967296>;", "as <"+large+">;", "tag <"+large+">;")
	checkRefused(t, api.ErrNumber, inSets, "metric <16777217>;", "preference <16777217>;", "tag <16777217>;", "prepend <0>;", "prepend 1 <4294967296>;", "prepend 1 <0> x;", "next-hop <0.0.0.0>;", "next-hop <0.0.0.0> { }")
	checkRefused(t, api.ErrNumber, inOSPF, "export static metric <16777217>;", "export static type <0>;", "export static type <3>;", "export static type <257>;", "export bgp metric 1 type <"+large+">;")
	checkRefused(t, api.ErrNumber, inBGP, "local-as <0>;", "local-as <4294967296>;", "export static metric <16777217>;")
	checkRefused(t, api.ErrNumber, inPeer, "peer-as <0>;", "peer-as <4294967296>;")
}

// Bits behind a prefix are set.
func TestRefusedMasks(t *testing.T) {
	checkRefused(t, api.ErrMask, inFits, "source <10.0.0.1/8>;", "destination <10.0.0.1/31>;", "source <0.0.0.1/0> x;", "destination <255.255.255.255/31> { }")
	checkRefused(t, api.ErrMask, "routes", "route <10.0.0.1/8> discard;", "route <10.0.0.1/8>;", "route <0.0.0.1/0> next-hop 0.0.0.0;")
	checkRefused(t, api.ErrMask, inList, "<10.0.0.1/8>;", "<10.0.0.1/8> upto 99;", "<0.0.0.1/0> { }")
	checkRefused(t, api.ErrMask, inBGP, "network <10.0.0.1/8>;", "network <10.128.0.0/8> x;")
}

// What may stand once stands twice in a block.
func TestRefusedTwice(t *testing.T) {
	refused(t, "system { host-name a; <host-name> b; }", api.ErrTwice)
	refused(t, "system { host-name a; } instances { a; }\nsystem { host-name a; <host-name> \"b\"; }", api.ErrTwice)
	// Of each row any may stand once, and none of it again.
	for blocks, rows := range map[string][][]string{
		inIface:  {{"instance a;", "instance b;"}, {"address 1.1.1.1/8;", "address 1.1.1.1/9;"}, {"filter input f;", "filter input g;"}, {"filter output f;", "filter output g;"}, {"nat inside;", "nat outside;"}, {"area 0;", "area 1;"}, {"metric 1;", "metric 2;"}, {"passive;"}, {"disable;"}},
		inRule:   {{"then accept;", "then discard;"}},
		inFits:   {{"protocol tcp;", "protocol 6;", "protocol udp;", "protocol icmp;"}, {"source 10.0.0.0/8;", "source 0.0.0.0/0;"}, {"destination 10.0.0.0/8;", "destination 0.0.0.0/0;"}, {"source-port 1;", "source-port 1-1;"}, {"destination-port 1;", "destination-port 2;"}},
		inPolicy: {{"default accept;", "default reject;"}},
		inAsks:   {{"prefix-list a;", "prefix-list b;"}, {"community a;", "community b;"}, {"tag 1;", "tag 2;"}, {"metric 1;", "metric 2;"}, {"as 1;", "as 2;"}},
		inSets:   {{"accept;", "reject;", "next;"}, {"metric 1;", "metric 2;"}, {"preference 1;", "preference 2;"}, {"tag 1;", "tag 2;"}, {"community set 1:1;", "community add 1:1;", "community set 1:1 1:2;"}, {"prepend 1;", "prepend 1 1;"}, {"next-hop 1.1.1.1;", "next-hop 1.1.1.2;"}},
		inOSPF:   {{"router-id 1.1.1.1;", "router-id 0.0.0.0;"}},
		inBGP:    {{"router-id 1.1.1.1;", "router-id 1.1.1.2;"}, {"local-as 1;", "local-as 2;"}},
		inPeer:   {{"peer-as 1;", "peer-as 2;"}, {"import a;", "import b;"}, {"export a;", "export b;"}, {"client;"}, {"next-hop-self;"}},
	} {
		all := ""
		for _, row := range rows {
			all += row[0] + " "
		}
		for _, row := range rows {
			for _, again := range row[1:] {
				checkRefused(t, api.ErrTwice, blocks, all+marked(again), all+row[0]+marked(again)+"foo;", row[0]+marked(again)+row[0], again+marked(row[0]))
			}
		}
		// The same words are one leaf.
		s := head
		for _, b := range strings.Split(blocks, "|") {
			s += b + " { "
		}
		s += all + all + strings.Repeat(" }", strings.Count(blocks, "|")+1)
		if blocks == inFits {
			s = head + "firewall { filter f { term t { from { " + all + all + "} then accept; } } }"
		}
		if _, pos, e := nested.Parse(s); e != api.OK {
			t.Errorf("Parse(%q): %v %v", s, pos, e)
		}
	}
	checkRefused(t, api.ErrTwice, inIface, "metric 1; } e0 { <metric> 2;", "filter input f; filter output f; nat inside; } e1 { nat outside; } e0 { <nat> outside;")
	checkRefused(t, api.ErrTwice, inSets, "accept; metric 5; tag 7; <next>;", "<prepend> [ 1 2 ];", "<tag> [ 1 1 2 ];")
}

// marked is a leaf with its first word between < and >.
func marked(leaf string) string {
	at := strings.IndexAny(leaf, " ;")
	return "<" + leaf[:at] + ">" + leaf[at:]
}

// A filter's term without then, once all in it is read.
func TestRefusedTerms(t *testing.T) {
	checkRefused(t, api.ErrNone, inFilter, "<term> t { }", "<term> t { from { } }", "<term> t { from { protocol tcp; } }", "term a { then accept; } <term> b { from { } } term c { foo; }", "term a { then discard; } <term> b { } term a { }", "<term> t { } term u { then accept; }")
	checkRefused(t, api.ErrWord, inFilter, "term t { <foo>; }", "term t { from { <foo>; } }", "term t { from { } <then>; }", "term t { then accept; } term u { then <deny>; }")
	checkRefused(t, api.ErrTwice, inFilter, "term t { from { protocol 1; <protocol> 2; } }")
	agree(t, head+"firewall { filter f { term t { } } filter f { term t { then accept; } } }")
	if _, _, e := nested.Parse(head + "firewall { filter f { term t { } } filter f { term t { then accept; } } }"); e != api.OK {
		t.Error(e)
	}
}

// Of several errors the chapter's first.
func TestRefusedInOrder(t *testing.T) {
	// What tree refuses, wherever it is: first Parse, then Inherit.
	refused(t, "foo; bar <}>", api.ErrWord)
	refused(t, "foo; bar <{>", api.ErrOpen)
	refused(t, "foo; <bar>", api.ErrOpen)
	refused(t, "foo; apply-groups <g>; bar;", api.ErrRef)
	refused(t, "foo; groups { <g>; }", api.ErrWord)
	refused(t, "apply-groups g; foo; <\"bar>", api.ErrOpen)
	refused(t, strings.Repeat("a { ", tree.MaxDeep)+"a <{> "+strings.Repeat("}", tree.MaxDeep+1), api.ErrDeep)
	for s, want := range map[string]api.Pos{"foo; \x01": {Line: 1, Col: 6}, "foo {\n\xff": {Line: 2, Col: 1}, "a\t;": {Line: 1, Col: 2}} {
		if _, pos, e := nested.Parse(s); e != api.ErrBlank || pos != want {
			t.Errorf("Parse(%q): %v %v", s, pos, e)
		}
	}
	for s, want := range map[string]api.Pos{strings.Repeat(" ", api.MaxText+1): {}, "foo" + strings.Repeat("\n", api.MaxLines) + ";": {Line: api.MaxLines + 1, Col: 1}} {
		if _, pos, e := nested.Parse(s); e != api.ErrFull || pos != want {
			t.Errorf("Parse(%.9q ..): %v %v", s, pos, e)
		}
	}
	// Statement by statement as they stand when they are put together.
	refused(t, "interfaces { e0 { area 0; } e1 { metric 0; } e0 { area <x>; } }", api.ErrWord)
	refused(t, "interfaces { e0 { metric <0>; } } foo;", api.ErrNumber)
	refused(t, "interfaces { <1> { metric 0; } }", api.ErrWord)
	refused(t, "interfaces { e0 <x> { metric 0; } }", api.ErrWord)
	refused(t, "interfaces { e0 { <metric> { foo; } } }", api.ErrWord)
	refused(t, "routes { route <10.0.0.1/8> next-hop 0.0.0.0 x; }", api.ErrMask)
	refused(t, "routes { route 10.0.0.0/8 next-hop <0.0.0.0> x; }", api.ErrNumber)
	refused(t, "routes { route 10.0.0.0/8 <x> preference 0; }", api.ErrWord)
	// Of one statement what is wrong with words, then with its end, then what stands twice.
	refused(t, "system { host-name a; host-name <1>; }", api.ErrWord)
	refused(t, "system { host-name a; <host-name>; }", api.ErrWord)
	refused(t, "system { host-name a; <host-name> b { } }", api.ErrWord)
	refused(t, "interfaces { e0 { metric 1; metric <0> { } } }", api.ErrNumber)
	refused(t, "interfaces { e0 { metric 1; <metric> 2; metric 0; } }", api.ErrTwice)
	// No host-name, behind all.
	refused(t, "interfaces { e0 { metric <0>; } }", api.ErrNumber)
	for _, s := range []string{"", " ", "# system { host-name a; }", "system { }", "instances { a; }", "groups { g { system { host-name a; } } }"} {
		if d, pos, e := nested.Parse(s); e != api.ErrNone || pos != (api.Pos{}) || !alike(d, api.Device{}) {
			t.Errorf("Parse(%q): %v %v %v", s, d, pos, e)
		}
		agree(t, s)
	}
}

// What groups pass on is refused where it stands in its group.
func TestRefusedInGroups(t *testing.T) {
	refused(t, "groups { g { interfaces { e0 { metric <0>; } } } } apply-groups g;", api.ErrNumber)
	refused(t, "groups { g { system { <foo>; } } } system { host-name a; apply-groups h; } groups { h { } } apply-groups g;", api.ErrWord)
	refused(t, "groups { g { policy { statement s { term t { then { <accept>; } } } } } } apply-groups g; policy { statement s { term t { then { reject; } } } }", api.ErrTwice)
	refused(t, "groups { g { firewall { filter f { <term> t { } } } } } apply-groups g;", api.ErrNone)
	s := "groups { g { interfaces { <*> { metric 0; } } } } apply-groups g; interfaces { e0 { } }"
	if _, pos, e := nested.Parse(s); e != api.ErrNumber || pos != (api.Pos{Line: 1, Col: 40}) {
		t.Error(pos, e)
	}
	agree(t, s)
}

// Read refuses as Parse does; a word without a place has the place 0 0, and statements need not have words.
func TestReadRefused(t *testing.T) {
	at := func(n tree.Node, places ...int) tree.Node {
		for _, p := range places {
			n.Pos = append(n.Pos, api.Pos{Line: 7, Col: p})
		}
		return n
	}
	for _, x := range []struct {
		l    []tree.Node
		want int
		e    api.Errno
	}{
		{[]tree.Node{{}}, 0, api.ErrWord},
		{[]tree.Node{{Block: true}}, 0, api.ErrWord},
		{[]tree.Node{at(tree.Node{}, 5)}, 0, api.ErrWord},
		{[]tree.Node{at(leaf("system"), 5)}, 5, api.ErrWord},
		{[]tree.Node{at(block("foo"), 5, 6)}, 5, api.ErrWord},
		{[]tree.Node{at(block("system a"), 5, 6)}, 6, api.ErrWord},
		{[]tree.Node{at(block("system a"), 5)}, 0, api.ErrWord},
		{[]tree.Node{block("interfaces", block("e0", at(leaf("metric 0"), 5, 6)))}, 6, api.ErrNumber},
		{[]tree.Node{block("interfaces", block("e0", at(leaf("metric 1"), 5, 6)), block("e0", at(leaf("metric 2"), 7, 8)))}, 7, api.ErrTwice},
		{[]tree.Node{block("firewall", block("filter f", at(block("term t"), 9)))}, 9, api.ErrNone},
		{[]tree.Node{block("system", tree.Node{Words: []string{"host-name"}, Kids: []tree.Node{leaf("a")}})}, 0, api.ErrWord},
		{[]tree.Node{block("system", tree.Node{Words: []string{"host-name", "\xff"}})}, 0, api.ErrWord},
	} {
		want := api.Pos{}
		if x.want > 0 {
			want = api.Pos{Line: 7, Col: x.want}
		}
		if d, pos, e := nested.Read(x.l); e != x.e || pos != want || !alike(d, api.Device{}) {
			t.Errorf("Read(%v): %v %v %v, not %v %v", x.l, d, pos, e, want, x.e)
		}
	}
}

// Any word or sign of a text another one, left out, or there twice; a block of the text at a time.
func TestEachWordChanged(t *testing.T) {
	agree(t, whole)
	others := []string{"", "x", "0", "1", "99", "65536", "4294967296", "0.0.0.0", "10.0.0.1", "10.0.0.0/8", "10.0.0.1/8", "accept", "reject", "then", "1:1", "5-4", "red", "s", "\"a b\"", "\"\"", ";", "{", "{ }", "}", "[ a b ]", "apply-groups g ;", "export", "from"}
	l, _, _ := tree.Parse(whole)
	for i := range l {
		tokens, _, _ := lex.Tokens(written(l[i : i+1]))
		for k, x := range tokens {
			ahead, behind := head+joined(tokens[:k]), joined(tokens[k+1:])
			for _, o := range append([]string{x.Text + " " + x.Text, x.Text + "x", strings.ToUpper(x.Text)}, others...) {
				agree(t, ahead+o+" "+behind)
				agree(t, ahead+x.Text+" "+o+" "+behind)
			}
		}
	}
}

// joined are tokens as a text, a blank behind each.
func joined(tokens []lex.Token) string {
	s := ""
	for _, x := range tokens {
		s += x.Text + " "
	}
	return s
}

// Any statement of a text left out, twice, elsewhere, or the other kind.
func TestEachStatementChanged(t *testing.T) {
	l, _, _ := tree.Parse(whole)
	var each func(l []tree.Node, put func([]tree.Node))
	each = func(l []tree.Node, put func([]tree.Node)) {
		for i, n := range l {
			other := n
			other.Block = !n.Block
			for _, now := range [][]tree.Node{nil, {n, n}, {other}, {n, leaf("accept")}, {n, block("from")}, {block("from", n)}, {{Block: n.Block, Kids: n.Kids}}} {
				put(slices.Concat(l[:i], now, l[i+1:]))
			}
			put(append(slices.Concat(l[:i], l[i+1:]), n))
			each(n.Kids, func(kids []tree.Node) {
				own := slices.Clone(l)
				own[i].Kids = kids
				put(own)
			})
		}
	}
	each(l, func(l []tree.Node) {
		agreeRead(t, l)
		if s := written(l); s != "" {
			agree(t, s)
		}
	})
}

// R1: each call answers, whatever the text: all short ones, and a long one with any byte changed.
func TestAnyBytes(t *testing.T) {
	probe.Texts("a1 {};[\"#\xff", 5, func(s string) { nested.Parse(s) })
	r := rand.New(rand.NewSource(2))
	small := "system{host-name a;}policy{statement s{term t{then{prepend 1;accept;}}}}protocols{bgp{neighbor 1.1.1.1{peer-as 1;}}}"
	probe.Changed(small, func(s string) {
		d, pos, e := nested.Parse(s)
		if e == api.OK != (pos == api.Pos{}) && e != api.ErrNone || e != api.OK && !alike(d, api.Device{}) {
			t.Errorf("Parse(%q): %v %v %v", s, d, pos, e)
		}
		if r.Intn(4) == 0 {
			agree(t, s)
		}
	})
}
