package raft_test

import (
	"testing"

	"wapentake/api"
)

// behind makes a follower 2 of the term 5 whose log begins at 4 2, has entries from 5 on of these terms, and is committed up to commit.
func behind(t *testing.T, commit uint64, terms ...uint64) *node {
	t.Helper()
	n := open(t, 2, kept{Term: 5, Snap: snapAt(4, 2, 7), Entries: noops(5, terms...)}, 10)
	index, term := n.r.Last()
	n.hear(msg{Kind: api.MAppend, From: 1, To: 2, Term: 5, Index: index, LogTerm: term, Commit: commit}, 10)
	n.isAt(5, 0, 1, commit)
	return n
}

// appends is an MAppend of the node 1 to 2 in the term 5.
func appends(index, logTerm, commit uint64, entries ...entry) msg {
	return msg{Kind: api.MAppend, From: 1, To: 2, Term: 5, Index: index, LogTerm: logTerm, Commit: commit, Round: 6, Entries: entries}
}

// tells is the answer of 2 to it.
func tells(ok bool, index uint64) msg {
	return appTell(2, 1, 5, ok, index, 6)
}

// P14.3: MAppend makes a candidate a follower that knows the leader, and restarts the timer, whatever becomes of its entries.
func TestAppendToACandidate(t *testing.T) {
	for _, x := range []msg{{}, {Index: 9, LogTerm: 9}, {Entries: noops(7, 7)}} {
		n := inRole(t, "candidate")
		n.ticks(5, 10)
		x.Kind, x.From, x.To, x.Term = api.MAppend, 3, 1, 3
		n.hear(x, 14)
		n.isAt(3, 1, 3, 0)
		n.hasLeft(14)
		n.hear(n.voteTell(2, true), 10)
		n.leads(false)
	}
}

// P14.3: entries that join the log are put into it; what it did not have is saved; the answer tells the match and the Round.
func TestAppend(t *testing.T) {
	for _, x := range []struct {
		index, term uint64
		terms       []uint64 // of the entries behind index
		match       uint64
		fresh       int // how many of them the log did not have
		log         []uint64
	}{
		{7, 4, nil, 7, 0, []uint64{3, 3, 4}},
		{7, 4, []uint64{4, 5}, 9, 2, []uint64{3, 3, 4, 4, 5}},
		{5, 3, nil, 5, 0, []uint64{3, 3, 4}},
		{4, 2, []uint64{3}, 5, 0, []uint64{3, 3, 4}},
		{4, 2, []uint64{3, 3, 4, 4}, 8, 1, []uint64{3, 3, 4, 4}},
		{5, 3, []uint64{3, 5}, 7, 1, []uint64{3, 3, 5}},
		{5, 3, []uint64{4}, 6, 1, []uint64{3, 4}},
		{5, 3, []uint64{4, 4, 4, 4}, 9, 4, []uint64{3, 4, 4, 4, 4}},
		{4, 2, []uint64{2, 2}, 6, 2, []uint64{2, 2}},
		{3, 1, []uint64{2}, 4, 0, []uint64{3, 3, 4}},
		{2, 1, []uint64{1, 2, 3, 5}, 6, 1, []uint64{3, 5}},
		{0, 0, []uint64{1, 1, 1, 2, 3, 3, 4, 5}, 8, 1, []uint64{3, 3, 4, 5}},
	} {
		n := behind(t, 4, 3, 3, 4)
		entries := noops(x.index+1, x.terms...)
		want := out{Recs: saved(entries[len(entries)-x.fresh:]...), Msgs: []msg{tells(true, x.match)}}
		outputs(t, n.hear(appends(x.index, x.term, 0, entries...), 15), want)
		n.hasTerms(x.log...)
		n.isAt(5, 0, 1, 4)
		n.hasLeft(15)
	}
}

// P14.3: entries that do not join the log are refused; the answer tells up to which index it may be the leader's.
func TestAppendThatIsRefused(t *testing.T) {
	for _, x := range []struct {
		index, term uint64
		entries     []entry
		told        uint64
	}{
		{8, 4, nil, 7}, {9, 5, noops(10, 5), 7}, {1 << 40, 5, nil, 7}, // behind the end
		{7, 3, nil, 6}, {7, 5, noops(8, 5), 6}, {6, 4, nil, 5}, {5, 4, noops(6, 4), 4}, // another term there
		{4, 3, nil, 3}, {4, 1, noops(5, 3), 3}, // at the beginning
		{7, 4, noops(7, 4), 6}, {7, 4, noops(9, 4), 6}, {7, 4, noops(8, 3), 6}, {5, 3, noops(6, 4, 3), 4}, // that do not fit
	} {
		n := behind(t, 4, 3, 3, 4)
		outputs(t, n.hear(appends(x.index, x.term, 9, x.entries...), 15), sends(tells(false, x.told)))
		n.hasTerms(3, 3, 4)
		n.isAt(5, 0, 1, 4)
		n.hasLeft(15)
	}
}

// P14.3: what is refused at the index 0 is told with 0.
func TestAppendThatIsRefusedAtZero(t *testing.T) {
	n := open(t, 2, kept{Term: 5, Snap: api.Snap{Members: 7}}, 10)
	outputs(t, n.hear(appends(0, 1, 0), 10), sends(tells(false, 0)))
	outputs(t, n.hear(appends(0, 0, 0, noops(2, 1)...), 10), sends(tells(false, 0)))
	outputs(t, n.hear(appends(1, 0, 0), 10), sends(tells(false, 0)))
	outputs(t, n.hear(appends(3, 1, 0), 10), sends(tells(false, 0)))
}

// P14.3: an Index below the log's beginning is told with that, as what was truncated was committed.
func TestAppendBelowTheBeginning(t *testing.T) {
	for _, entries := range [][]entry{nil, noops(4, 1), noops(3, 2), noops(9, 5), noops(4, 2), noops(4, 2, 1)} {
		n := behind(t, 4, 3)
		x := appends(3, 1, 9, entries...)
		if len(entries) > 0 && entries[0].Index == 4 && entries[0].Term == 1 {
			// It has another term than the beginning.
			outputs(t, n.hear(x, 10), sends(tells(false, 2)))
			continue
		}
		outputs(t, n.hear(x, 10), sends(tells(true, 4)))
		n.isAt(5, 0, 1, 4)
		n.hasTerms(3)
	}
	n := behind(t, 4, 3)
	outputs(t, n.hear(appends(0, 0, 9), 10), sends(tells(true, 4)))
}

// P14.3: entries with another term at an index that is not above the commit index are refused as a whole; above it, they take the place of the log's.
func TestAppendThatContradicts(t *testing.T) {
	for commit := uint64(4); commit <= 8; commit++ {
		for at := uint64(5); at <= 8; at++ {
			// The log has 3 3 4 4 from 5 on; from at on, the entries have the term 5.
			n := behind(t, commit, 3, 3, 4, 4)
			entries := noops(5, 3, 3, 4, 4)
			for i := at - 5; i < 4; i++ {
				entries[i].Term = 5
			}
			o := n.hear(appends(4, 2, 0, entries...), 10)
			if at <= commit {
				outputs(t, o, sends(tells(false, 3)))
				n.hasTerms(3, 3, 4, 4)
			} else {
				outputs(t, o, out{Recs: saved(entries[at-5:]...), Msgs: []msg{tells(true, 8)}})
			}
			n.isAt(5, 0, 1, commit)
		}
	}
}

// P14.3: a contradiction counts even in entries that do not fit, and at the beginning of the log, but not where the log has no term.
func TestContradictionsElsewhere(t *testing.T) {
	n := behind(t, 6, 3, 3, 4)
	outputs(t, n.hear(appends(2, 1, 9, noop(3, 1), noop(4, 1)), 10), sends(tells(false, 1)))
	outputs(t, n.hear(appends(1, 1, 9, noop(6, 4), noop(2, 1)), 10), sends(tells(false, 0)))
	outputs(t, n.hear(appends(3, 1, 9, noop(3, 9), noop(7, 9), noop(99, 9)), 10), sends(tells(true, 4)))
	outputs(t, n.hear(appends(1, 1, 9, noop(2, 1), noop(3, 1), noop(4, 2), noop(5, 3)), 10), sends(tells(true, 5)))
	n.isAt(5, 0, 1, 6)
	n.hasTerms(3, 3, 4)
}

// P14.3: the commit index becomes the minimum of Commit and the match, if that is greater.
func TestCommitOfAnAppend(t *testing.T) {
	for commit := uint64(0); commit <= 12; commit++ {
		for match := uint64(4); match <= 8; match++ {
			n := behind(t, 6, 3, 3, 4)
			x := appends(4, 2, commit)
			for _, e := range noops(5, 3, 3, 4, 4)[:match-4] {
				x.Entries = append(x.Entries, e)
			}
			n.hear(x, 10)
			n.isAt(5, 0, 1, max(6, min(commit, match)))
		}
	}
	n := behind(t, 4, 3, 3, 4)
	n.hear(appends(8, 4, 9), 10)
	n.isAt(5, 0, 1, 4)
}

// P14.3: the members of an entry count at once, and not any more once it is truncated.
func TestMembersOfAnAppend(t *testing.T) {
	n := behind(t, 4)
	n.hear(appends(4, 2, 0, membership(5, 3, 15), noop(6, 3), membership(7, 3, 31)), 10)
	for index, want := range []uint8{7, 7, 7, 7, 7, 15, 15, 31, 31} {
		if got := n.r.MembersAt(uint64(index)); got != want {
			t.Errorf("MembersAt(%d): %d, not %d", index, got, want)
		}
	}
	n.hear(appends(6, 3, 0, noop(7, 4)), 10)
	if n.r.Members() != 15 {
		t.Errorf("Members: %d", n.r.Members())
	}
	n.hear(appends(4, 2, 0, noop(5, 4)), 10)
	if n.r.Members() != 7 {
		t.Errorf("Members: %d", n.r.Members())
	}
}

// P14.3: MAppTell raises what a leader knows of a node, but not above its own last index; the greatest index of its own term that a majority has is committed.
func TestAppTell(t *testing.T) {
	n := open(t, 1, kept{Term: 2, Snap: api.Snap{Members: 31}, Entries: noops(1, 1, 2)}, 10)
	n.wins()
	n.propose(entry{Kind: api.ETick})
	for _, x := range []struct {
		from          uint8
		index         uint64
		match, commit uint64
	}{
		{2, 99, 4, 0}, {3, 2, 2, 0}, {3, 1, 2, 0}, {4, 2, 2, 0}, {5, 2, 2, 0}, {4, 3, 3, 3}, {5, 4, 4, 4}, {2, 1 << 61, 4, 4}, {3, greatest, 4, 4},
	} {
		outputs(t, n.hear(n.appTell(x.from, true, x.index, 0), 10), out{})
		n.isAt(3, 1, 1, x.commit)
		if got := n.r.Match(x.from); got != x.match {
			t.Errorf("Match(%d): %d, not %d", x.from, got, x.match)
		}
	}
}

// P14.3: an entry of an earlier term that a majority has is not committed by itself.
func TestCommitOfTheOwnTermAlone(t *testing.T) {
	n := open(t, 1, kept{Term: 2, Snap: api.Snap{Members: 7}, Entries: noops(1, 1, 2)}, 10)
	n.wins()
	for index := uint64(1); index <= 2; index++ {
		n.hear(n.appTell(2, true, index, 0), 10)
		n.hear(n.appTell(3, true, index, 0), 10)
		n.isAt(3, 1, 1, 0)
	}
	n.hear(n.appTell(2, true, 3, 0), 10)
	n.isAt(3, 1, 1, 3)
}

// P14.3: what a node that refuses tells is sent to it next, but never what it is known to have; a no is no match.
func TestAppTellThatRefuses(t *testing.T) {
	n := leaderOf(t, 7)
	for range 5 {
		n.propose(entry{Kind: api.ETick})
	}
	for _, x := range []struct {
		ok                 bool
		told, match, index uint64
	}{{true, 3, 3, 3}, {false, 1, 3, 3}, {true, 5, 5, 5}, {false, 9, 5, 5}, {false, 0, 5, 5}, {true, 2, 5, 5}} {
		n.hear(n.appTell(2, x.ok, x.told, 0), 10)
		if got := n.r.Match(2); got != x.match {
			t.Errorf("Match: %d, not %d", got, x.match)
		}
		if got := n.tick(10).Msgs[0].Index; got != x.index {
			t.Errorf("sent behind %d, not %d", got, x.index)
		}
	}
	n = open(t, 1, kept{Term: 1, Snap: api.Snap{Members: 7}, Entries: noops(1, 1, 1, 1, 1)}, 10)
	n.wins()
	for _, x := range []struct{ told, index uint64 }{{9, 4}, {3, 3}, {greatest >> 2, 3}, {1, 1}, {2, 1}, {0, 0}, {4, 0}} {
		n.hear(n.appTell(2, false, x.told, 0), 10)
		if got := n.tick(10).Msgs[0].Index; got != x.index {
			t.Errorf("sent behind %d, not %d", got, x.index)
		}
	}
}

// P14.3: an answer without a yes acknowledges its Round all the same, and a Round never goes back.
func TestRoundOfAnAppTell(t *testing.T) {
	n := leaderOf(t, 7)
	n.ticks(4, 10)
	n.read(6)
	n.tick(10)
	outputs(t, n.hear(n.appTell(2, false, 0, 4), 10), out{})
	outputs(t, n.hear(n.appTell(2, false, 0, 5), 10), out{Reads: []read{{Id: 6, Index: 1, Round: 5}}})
	n.hear(n.appTell(2, true, 1, 3), 10)
	n.read(7)
	n.tick(10)
	outputs(t, n.hear(n.secTell(3, 0, 0, 6), 10), out{Reads: []read{{Id: 7, Index: 1, Round: 6}}})
}

// P14.3: a read whose round is acknowledged is output, even if the same message commits an entry; it has the Index with which it was begun.
func TestReadAndCommit(t *testing.T) {
	n := leaderOf(t, 7)
	n.read(6)
	n.tick(10)
	n.propose(entry{Kind: api.ETick})
	outputs(t, n.hear(n.appTell(2, true, 2, 1), 10), out{Reads: []read{{Id: 6, Index: 1, Round: 1}}})
	n.isAt(1, 1, 1, 2)
}

// P14.3: a leader that is not one of the members resigns once they are committed, and not before; what was asked of it is lost.
func TestLeaderThatIsOut(t *testing.T) {
	n := leaderOf(t, 7)
	if _, _, code := n.change(6); code != api.ROK {
		t.Fatalf("Change: %d", code)
	}
	n.read(4)
	outputs(t, n.tick(10), sends(
		msg{Kind: api.MAppend, From: 1, To: 2, Term: 1, Index: 1, LogTerm: 1, Commit: 1, Round: 1, Entries: []entry{membership(2, 1, 6)}},
		msg{Kind: api.MAppend, From: 1, To: 3, Term: 1, Index: 1, LogTerm: 1, Commit: 1, Round: 1, Entries: []entry{membership(2, 1, 6)}}))
	n.lead(3)
	outputs(t, n.hear(n.appTell(2, true, 2, 1), 10), out{})
	n.leads(true)
	n.propose(entry{Kind: api.ETick})
	outputs(t, n.hear(n.appTell(3, true, 2, 1), 10), out{Lost: true})
	n.leads(false)
	n.isAt(1, 1, 0, 2)
	outputs(t, n.ticks(40, 10), out{})
	outputs(t, n.hear(n.appTell(3, true, 3, 2), 10), out{})
	if n.read(5) {
		t.Errorf("Read of one that does not lead")
	}
}

// P14.3: of one that is out, its own log counts for no majority.
func TestMarkOfOneThatIsOut(t *testing.T) {
	n := leaderOf(t, 3)
	n.change(2)
	n.isAt(1, 1, 1, 1)
	outputs(t, n.hear(n.appTell(3, true, 2, 0), 10), out{})
	outputs(t, n.hear(n.appTell(2, true, 1, 0), 10), out{})
	outputs(t, n.hear(n.appTell(2, true, 2, 0), 10), out{Lost: true})
	n.isAt(1, 1, 0, 2)
}
