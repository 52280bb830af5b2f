package lists_test

import (
	"math"
	"math/rand"
	"slices"
	"testing"

	"waymark/api"
	"waymark/lists"
)

// communities are those of which the tests make lists; a set of them is a number whose bits are their places.
var communities = []uint32{0, 1, 65535, 65537, 1 << 31, math.MaxUint32}

// formed are the communities of a set, rising.
func formed(set int) []uint32 {
	var form []uint32
	for i, c := range communities {
		if set>>i&1 == 1 {
			form = append(form, c)
		}
	}
	return form
}

// scrambled are the communities of a set in any order, some of them more than once.
func scrambled(r *rand.Rand, set int) []uint32 {
	comm := formed(set)
	for range r.Intn(4) {
		if len(comm) > 0 {
			comm = append(comm, comm[r.Intn(len(comm))])
		}
	}
	r.Shuffle(len(comm), func(i, k int) { comm[i], comm[k] = comm[k], comm[i] })
	return comm
}

// anyMembers are so many members, and their sets.
func anyMembers(r *rand.Rand, count int) ([]api.Member, []int) {
	var members []api.Member
	var sets []int
	for range count {
		set := r.Intn(1<<len(communities)) & r.Intn(1<<len(communities))
		sets = append(sets, set)
		members = append(members, api.Member{Permit: r.Intn(2) == 0, All: scrambled(r, set)})
	}
	return members, sets
}

// checkMember looks whether a list decides communities by the member at this place, or by none, if it is -1 (P9.2); also of their form (P9.5).
func checkMember(t *testing.T, members []api.Member, comm []uint32, at int) {
	t.Helper()
	l := api.CommunityList{Members: members}
	for _, comm := range [][]uint32{comm, lists.Normal(comm)} {
		i, is := lists.Member(l, comm)
		if at < 0 && (i != 0 || is) || at >= 0 && (i != at || !is) {
			t.Errorf("Member(%v, %v): %d %v, not %d", l, comm, i, is, at)
		}
		if allows := lists.Allows(l, comm); allows != (at >= 0 && members[at].Permit) {
			t.Errorf("Allows(%v, %v): %v", l, comm, allows)
		}
	}
}

// P9.2: the chapter's examples, and a few more.
func TestMemberKnown(t *testing.T) {
	one := []api.Member{{Permit: true, All: []uint32{65537, 65538}}}
	checkMember(t, one, []uint32{65538, 65539, 65537}, 0)
	checkMember(t, one, []uint32{65537, 65538}, 0)
	checkMember(t, one, []uint32{65538, 65537}, 0)
	checkMember(t, one, []uint32{65537, 65537, 65538, 65537}, 0)
	checkMember(t, one, []uint32{65537}, -1)
	checkMember(t, one, []uint32{65538, 65538}, -1)
	checkMember(t, one, []uint32{65536, 65539}, -1)
	checkMember(t, one, nil, -1)
	none := []api.Member{{Permit: true}}
	checkMember(t, none, nil, 0)
	checkMember(t, none, []uint32{}, 0)
	checkMember(t, none, []uint32{7}, 0)
	checkMember(t, []api.Member{{All: []uint32{1}}, {Permit: true, All: []uint32{1, 2}}, {Permit: true, All: []uint32{}}}, []uint32{2, 1}, 0)
	checkMember(t, []api.Member{{All: []uint32{3}}, {Permit: true, All: []uint32{2, 1, 2}}, {All: []uint32{}}}, []uint32{1, 2}, 1)
	checkMember(t, []api.Member{{All: []uint32{3}}, {Permit: true, All: []uint32{2, 1, 2}}, {All: []uint32{}}}, []uint32{1}, 2)
	// A community is its number: the half alone, or the sum, does not do.
	checkMember(t, []api.Member{{Permit: true, All: []uint32{1 << 16}}}, []uint32{1, 1<<16 - 1, 1<<16 + 1, 1 << 17}, -1)
}

// P9.2: each set in a member, and each set of communities, in several orders.
func TestMemberEach(t *testing.T) {
	r := rand.New(rand.NewSource(9))
	for all := range 1 << len(communities) {
		for set := range 1 << len(communities) {
			for _, permit := range []bool{false, true} {
				at := -1
				if all&^set == 0 {
					at = 0
				}
				checkMember(t, []api.Member{{Permit: permit, All: scrambled(r, all)}}, scrambled(r, set), at)
			}
		}
	}
}

// P9.2, P9.4: the first one that fits decides, whatever stands behind it; what is put ahead and does not fit changes nothing but its place.
func TestMemberMany(t *testing.T) {
	r := rand.New(rand.NewSource(9))
	decided, none := 0, 0
	for range 20000 {
		members, sets := anyMembers(r, r.Intn(7))
		set := r.Intn(1 << len(communities))
		comm := scrambled(r, set)
		at := slices.IndexFunc(sets, func(all int) bool { return all&^set == 0 })
		checkMember(t, members, comm, at)
		var strangers []api.Member
		more, moreSets := anyMembers(r, 4)
		for i, all := range moreSets {
			if all&^set != 0 {
				strangers = append(strangers, more[i])
			}
		}
		if at < 0 {
			none++
			checkMember(t, slices.Concat(strangers, members, strangers), comm, -1)
			continue
		}
		decided++
		checkMember(t, members[:at+1], comm, at)
		checkMember(t, members[at:], comm, 0)
		checkMember(t, slices.Concat(members[:at+1], more), comm, at)
		checkMember(t, slices.Concat(strangers, members), comm, at+len(strangers))
		// Twice, and then with what it says turned.
		twice := slices.Concat(members[:at+1], members[at:], members)
		checkMember(t, twice, comm, at)
		twice[at+1].Permit = !twice[at].Permit
		checkMember(t, twice, comm, at)
	}
	if decided < 3000 || none < 3000 {
		t.Errorf("%d decided, %d not", decided, none)
	}
}

// P9.4: an empty list permits nothing; what stands in the room behind an end does not count (R3).
func TestNoMembers(t *testing.T) {
	room := []api.Member{{Permit: true}, {Permit: true, All: []uint32{1}}}
	for set := range 1 << len(communities) {
		for _, members := range [][]api.Member{nil, {}, room[:0], room[1:1]} {
			checkMember(t, members, formed(set), -1)
		}
	}
	one := []api.Member{{Permit: true, All: []uint32{1}}}
	both := []uint32{0, 1}
	checkMember(t, one, both[:1], -1)
	checkMember(t, one, both[1:1], -1)
	checkMember(t, one, both[1:], 0)
	checkMember(t, []api.Member{{Permit: true, All: both[:1]}}, []uint32{0}, 0)
}

// R3: neither the list nor the communities are changed, or kept.
func TestMembersAsTheyWere(t *testing.T) {
	comm := []uint32{9, 1, 9, 3, 1}
	all := []uint32{3, 1, 3, 9, 2}
	l := api.CommunityList{Members: []api.Member{{All: []uint32{7}}, {Permit: true, All: all[:3]}}}
	if i, is := lists.Member(l, comm[:4]); i != 1 || !is || !lists.Allows(l, comm[:4]) {
		t.Error(i, is)
	}
	if !slices.Equal(comm, []uint32{9, 1, 9, 3, 1}) || !slices.Equal(all, []uint32{3, 1, 3, 9, 2}) || len(l.Members) != 2 || !slices.Equal(l.Members[0].All, []uint32{7}) {
		t.Error(comm, all, l)
	}
	comm[1] = 4
	if _, is := lists.Member(l, comm[:4]); is || lists.Allows(l, comm[:4]) {
		t.Error("kept")
	}
}

// P9.2: a long list, of which the last member decides, over many communities.
func TestManyMembers(t *testing.T) {
	const many = 1 << 18
	var comm []uint32
	var members []api.Member
	for i := range uint32(many) {
		comm = append(comm, 2*(many-i))
		members = append(members, api.Member{All: []uint32{2 * many, 2, 2*i + 1}})
	}
	checkMember(t, members, comm, -1)
	members = append(members, api.Member{Permit: true, All: comm})
	checkMember(t, members, comm, many)
	checkMember(t, members, comm[1:], -1)
}
