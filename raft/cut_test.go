package raft_test

import (
	"testing"

	"wapentake/api"
)

// P14.5: a snapshot must be above the beginning, not above what is committed, and have the log's term and members there.
func TestCut(t *testing.T) {
	entries := []entry{noop(5, 2), membership(6, 3, 15), noop(7, 4), noop(8, 4), noop(9, 5)}
	for _, x := range []struct {
		index, term uint64
		members     uint8
		want        api.Errno
	}{
		{0, 0, 7, api.ErrOld}, {3, 2, 7, api.ErrOld}, {4, 2, 7, api.ErrOld}, {4, 9, 0, api.ErrOld},
		{9, 5, 15, api.ErrNone}, {9, 9, 0, api.ErrNone}, {10, 5, 15, api.ErrNone}, {greatest, 5, 15, api.ErrNone},
		{5, 1, 7, api.ErrArg}, {5, 3, 7, api.ErrArg}, {5, 2, 15, api.ErrArg}, {6, 3, 7, api.ErrArg}, {6, 3, 0, api.ErrArg}, {8, 4, 7, api.ErrArg}, {8, 5, 15, api.ErrArg}, {6, 3, 15 + 32, api.ErrArg},
		{5, 2, 7, api.OK}, {6, 3, 15, api.OK}, {7, 4, 15, api.OK}, {8, 4, 15, api.OK},
	} {
		n := open(t, 2, kept{Term: 5, Snap: snapAt(4, 2, 7), Entries: entries}, 10)
		n.hear(appends(9, 5, 8), 10)
		snap := snapAt(x.index, x.term, x.members)
		if e := n.cut(snap); e != x.want {
			t.Errorf("Cut at %d %d, %d: %d, not %d", x.index, x.term, x.members, e, x.want)
		}
		if x.want != api.OK {
			snap = snapAt(4, 2, 7)
		}
		if n.r.Snap() != snap || len(n.r.Entries(0, most)) != int(9-snap.Index) {
			t.Errorf("after Cut at %d: %v, %v", x.index, n.r.Snap(), n.r.Entries(0, most))
		}
		n.isAt(5, 0, 1, 8)
		if n.cut(snap) != api.ErrOld {
			t.Errorf("Cut twice")
		}
	}
}

// P14.5: what remains behind a cut is as it was; so is what is below it for what is asked of the beginning.
func TestAfterACut(t *testing.T) {
	n := leaderOf(t, 3)
	n.change(7)
	n.agrees(2, 0)
	for range 3 {
		n.propose(entry{Kind: api.ETick})
	}
	n.agrees(2, 0)
	n.agrees(3, 0)
	if e := n.cut(snapAt(5, 1, 7)); e != api.OK {
		t.Fatalf("Cut: %d", e)
	}
	n.isAt(1, 1, 1, 5)
	n.hasTerms()
	if index, term := n.r.Last(); index != 5 || term != 1 || n.r.Members() != 7 || n.r.MembersAt(1) != 7 {
		t.Errorf("Last %d %d, Members %d", index, term, n.r.Members())
	}
	e, _, ok := n.propose(entry{Kind: api.ETick})
	if !ok || e.Index != 6 {
		t.Errorf("Propose: %v", e)
	}
	outputs(t, n.agrees(2, 0), out{})
	n.isAt(1, 1, 1, 6)
	if _, _, code := n.change(15); code != api.ROK {
		t.Errorf("Change: %d", code)
	}
}
