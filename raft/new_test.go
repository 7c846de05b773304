package raft_test

import (
	"math"
	"slices"
	"testing"

	"wapentake/api"
	"wapentake/raft"
)

// P14.1: an id must be a node.
func TestNewOfNoNode(t *testing.T) {
	for id := range 256 {
		r, e := raft.New(uint8(id), among(7), 10)
		if isNode := id >= 1 && id <= 5; isNode != (e == api.OK) || isNode != (r != nil) || !isNode && e != api.ErrArg {
			t.Errorf("New(%d): %v, %d", id, r, e)
		}
	}
}

// P14.1: entries must fit the snapshot.
func TestNewOfEntriesThatDoNotFit(t *testing.T) {
	snap := snapAt(4, 3, 7)
	for _, entries := range [][]entry{
		noops(4, 3), noops(6, 3), noops(0, 3), noops(1, 3), noops(5, 2), noops(5, 3, 4, 3),
		{noop(5, 3), noop(7, 3)}, {noop(5, 3), noop(5, 3)}, {noop(6, 3), noop(5, 3)}, {noop(5, 3), noop(0, 3)},
	} {
		if r, e := raft.New(1, kept{Term: 3, Snap: snap, Entries: entries}, 10); r != nil || e != api.ErrArg {
			t.Errorf("New of %v: %v, %d", entries, r, e)
		}
		if r, e := raft.New(6, kept{Term: 3, Snap: snap, Entries: entries}, 10); r != nil || e != api.ErrArg {
			t.Errorf("New of no node and %v: %v, %d", entries, r, e)
		}
	}
	for _, entries := range [][]entry{nil, {}, noops(5, 3), noops(5, 3, 3, 7), noops(5, 9)} {
		open(t, 1, kept{Term: 3, Snap: snap, Entries: entries}, 10)
	}
}

// P14.1: what a new node has is what was kept; it is a follower that knows no leader.
func TestNewState(t *testing.T) {
	snap := snapAt(4, 3, 7)
	entries := []entry{noop(5, 3), membership(6, 4, 15), noop(7, 4), membership(8, 6, 31)}
	n := open(t, 2, kept{Term: 8, Vote: 5, Snap: snap, Entries: entries}, 12)
	n.isAt(8, 5, 0, 4)
	n.leads(false)
	n.hasLeft(12)
	if index, term := n.r.Last(); index != 8 || term != 6 {
		t.Errorf("Last: %d %d", index, term)
	}
	if n.r.Members() != 31 || n.r.Snap() != snap {
		t.Errorf("Members %d, Snap %v", n.r.Members(), n.r.Snap())
	}
	for index, want := range []uint8{7, 7, 7, 7, 7, 7, 15, 15, 31, 31} {
		if got := n.r.MembersAt(uint64(index)); got != want {
			t.Errorf("MembersAt(%d): %d, not %d", index, got, want)
		}
	}
	for _, x := range []struct {
		from     uint64
		most     int
		low, top int
	}{{0, most, 0, 4}, {5, 4, 0, 4}, {5, 3, 0, 3}, {6, 2, 1, 3}, {8, 1, 3, 4}, {9, 9, 0, 0}, {greatest, 9, 0, 0}, {5, 0, 0, 0}, {5, -1, 0, 0}} {
		if got := n.r.Entries(x.from, x.most); !slices.Equal(got, entries[x.low:x.top]) {
			t.Errorf("Entries(%d, %d): %v", x.from, x.most, got)
		}
	}
	for node := range 256 {
		if n.r.Match(uint8(node)) != 0 {
			t.Errorf("Match(%d): %d", node, n.r.Match(uint8(node)))
		}
	}
}

// P14.1: a timeout is limited to the range from 10 to 19, wherever it is passed in.
func TestWaits(t *testing.T) {
	for wait, want := range map[int]int{math.MinInt: 10, -1: 10, 0: 10, 9: 10, 10: 10, 11: 11, 18: 18, 19: 19, 20: 19, 255: 19, math.MaxInt: 19} {
		n := open(t, 2, among(7), wait)
		n.hasLeft(want)
		n.ticks(want-1, 15)
		n.isAt(0, 0, 0, 0)
		n.tick(wait)
		n.isAt(1, 2, 0, 0)
		n.hasLeft(want)
		n.hear(msg{Kind: api.MAppend, From: 1, To: 2, Term: 1}, wait)
		n.hasLeft(want)
		n.tick(12)
		n.hear(msg{Kind: api.MSection, From: 1, To: 2, Term: 1, Index: 1}, wait)
		n.hasLeft(want)
		n.tick(12)
		n.hear(msg{Kind: api.MVote, From: 3, To: 2, Term: 2}, wait)
		n.hasLeft(want)
		n.tick(12)
		n.hear(msg{Kind: api.MStandNow, From: 3, To: 2, Term: 2}, wait)
		n.hasLeft(want)
	}
}

// P14.1: Left counts down to 0, for a member or not; the timeout of one tick is not that of another one.
func TestLeft(t *testing.T) {
	n := open(t, 4, among(7), 13)
	for left := 12; left >= -30; left-- {
		n.tick(19)
		n.hasLeft(max(left, 0))
	}
	n = open(t, 3, among(7), 13)
	for left := 12; left >= 1; left-- {
		n.tick(19)
		n.hasLeft(left)
	}
	n.tick(17)
	n.hasLeft(17)
	n.tick(10)
	n.hasLeft(16)
	n.hear(n.voteTell(1, true), 10)
	n.leads(true)
	n.hasLeft(0)
	n.tick(10)
	n.hasLeft(0)
}

// P14.1: a leader that is none any more has what was left of its timer when it began to lead, as nothing restarted it.
func TestLeftOfOneThatLed(t *testing.T) {
	n := open(t, 1, among(7), 10)
	n.stands()
	n.ticks(3, 10)
	n.hear(n.voteTell(2, true), 19)
	n.ticks(50, 19)
	n.hear(msg{Kind: api.MVoteTell, From: 2, To: 1, Term: 9}, 19)
	n.hasLeft(7)
	n.ticks(6, 10)
	n.isAt(9, 0, 0, 0)
	n.tick(10)
	n.isAt(10, 1, 0, 0)
}

// P14.1: Match is what a leader knows of another node, a member or not.
func TestMatch(t *testing.T) {
	n := leaderOf(t, 7)
	n.propose(entry{Kind: api.ETick})
	n.hear(n.appTell(3, true, 2, 0), 10)
	n.hear(n.appTell(5, true, 2, 0), 10)
	for node, want := range []uint64{0, 0, 1, 2, 0, 2, 0, 0} {
		if got := n.r.Match(uint8(node)); got != want {
			t.Errorf("Match(%d): %d, not %d", node, got, want)
		}
	}
	if n.r.Match(255) != 0 {
		t.Errorf("Match(255): %d", n.r.Match(255))
	}
	n.hear(msg{Kind: api.MVoteTell, From: 2, To: 1, Term: 9}, 10)
	for node := range uint8(8) {
		if n.r.Match(node) != 0 {
			t.Errorf("Match(%d) of a follower: %d", node, n.r.Match(node))
		}
	}
	n.wins()
	for node := range uint8(8) {
		if n.r.Match(node) != 0 {
			t.Errorf("Match(%d) of a new leader: %d", node, n.r.Match(node))
		}
	}
}

// P14.1: Leader is the leader that the node knows, and its own id if it leads.
func TestLeader(t *testing.T) {
	n := open(t, 1, among(7), 10)
	n.hear(msg{Kind: api.MAppend, From: 3, To: 1, Term: 1}, 10)
	n.isAt(1, 0, 3, 0)
	n.hear(msg{Kind: api.MSection, From: 2, To: 1, Term: 2, Index: 5}, 10)
	n.isAt(2, 0, 2, 0)
	n.hear(msg{Kind: api.MVote, From: 3, To: 1, Term: 2}, 10)
	n.isAt(2, 3, 2, 0)
	n.hear(msg{Kind: api.MAppTell, From: 3, To: 1, Term: 3}, 10)
	n.isAt(3, 0, 0, 0)
	n.hear(msg{Kind: api.MAppend, From: 2, To: 1, Term: 3}, 10)
	n.stands()
	n.isAt(4, 1, 0, 0)
	n.hear(n.voteTell(2, true), 10)
	n.isAt(4, 1, 1, 0)
	n.hear(msg{Kind: api.MSecTell, From: 2, To: 1, Term: 5}, 10)
	n.isAt(5, 0, 0, 0)
}
