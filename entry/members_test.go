package entry_test

import (
	"math/bits"
	"slices"
	"testing"

	"wapentake/entry"
)

func TestMembersExamples(t *testing.T) {
	for _, x := range []struct {
		m        uint8
		members  []uint8
		majority int
	}{
		{0, nil, 1},
		{1, []uint8{1}, 1},
		{2, []uint8{2}, 1},
		{16, []uint8{5}, 1},
		{3, []uint8{1, 2}, 2},
		{7, []uint8{1, 2, 3}, 2},
		{13, []uint8{1, 3, 4}, 2},
		{15, []uint8{1, 2, 3, 4}, 3},
		{31, []uint8{1, 2, 3, 4, 5}, 3},
		{32, nil, 1},
		{64, nil, 1},
		{128, nil, 1},
		{224, nil, 1},
		{225, []uint8{1}, 1},
		{239, []uint8{1, 2, 3, 4}, 3},
		{255, []uint8{1, 2, 3, 4, 5}, 3},
	} {
		if got := entry.Members(x.m); !slices.Equal(got, x.members) {
			t.Errorf("Members(%d): %v, not %v", x.m, got, x.members)
		}
		if got := entry.Majority(x.m); got != x.majority {
			t.Errorf("Majority(%d): %d, not %d", x.m, got, x.majority)
		}
	}
}

func TestEveryMembership(t *testing.T) {
	for m := range 256 {
		var want []uint8
		for i, worth := range []int{1, 2, 4, 8, 16} {
			if m/worth%2 == 1 {
				want = append(want, uint8(i+1))
			}
		}
		members := entry.Members(uint8(m))
		if !slices.Equal(members, want) {
			t.Errorf("Members(%d): %v, not %v", m, members, want)
		}
		n := entry.Majority(uint8(m))
		if 2*n <= len(want) || n < 1 || 2*(n-1) > len(want) || n > len(want) && m%32 != 0 {
			t.Errorf("Majority(%d): %d, of %d", m, n, len(want))
		}
	}
}

func TestMembersAreNewEachTime(t *testing.T) {
	for m := range 256 {
		a, b := entry.Members(uint8(m)), entry.Members(uint8(m))
		want := slices.Clone(b)
		clear(a[:cap(a)])
		if !slices.Equal(b, want) || !slices.Equal(entry.Members(uint8(m)), want) {
			t.Fatalf("Members(%d): a change of one answer changed another one", m)
		}
	}
}

// majorities returns the sets of members of m, as bits, that have at least as many as Majority tells.
func majorities(m uint8) []uint8 {
	var members uint8
	for _, node := range entry.Members(m) {
		members |= 1 << (node - 1)
	}
	var sets []uint8
	for set := range uint8(32) {
		if set&^members == 0 && bits.OnesCount8(set) >= entry.Majority(m) {
			sets = append(sets, set)
		}
	}
	return sets
}

func TestMajoritiesOfNearMembershipsMeet(t *testing.T) {
	meet := func(m, near uint8) {
		for _, a := range majorities(m) {
			for _, b := range majorities(near) {
				if a&b == 0 {
					t.Fatalf("of %05b the majority %05b and of %05b the majority %05b", m, a, near, b)
				}
			}
		}
	}
	for m := range 256 {
		if got := len(majorities(uint8(m))); (got > 0) != (m%32 != 0) {
			t.Errorf("%05b has %d majorities", m, got)
		}
		meet(uint8(m), uint8(m))
		for bit := range 8 {
			meet(uint8(m), uint8(m)^1<<bit)
		}
	}
}
