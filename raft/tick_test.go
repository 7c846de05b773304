package raft_test

import (
	"testing"

	"wapentake/api"
)

// asks are the MVotes of a candidate.
func asks(from uint8, term, index, logTerm uint64, to ...uint8) []msg {
	var list []msg
	for _, node := range to {
		list = append(list, msg{Kind: api.MVote, From: from, To: node, Term: term, Index: index, LogTerm: logTerm})
	}
	return list
}

// P14.2: the chapter's examples, one after the other.
func TestExamples(t *testing.T) {
	n := open(t, 1, among(1), 10)
	outputs(t, n.ticks(9, 10), out{})
	outputs(t, n.tick(10), out{Recs: append([]rec{state(1, 1)}, saved(noop(1, 1))...)})
	n.leads(true)
	n.isAt(1, 1, 1, 1)

	n = open(t, 1, among(7), 10)
	outputs(t, n.ticks(9, 10), out{})
	outputs(t, n.tick(10), out{Recs: []rec{state(1, 1)}, Msgs: asks(1, 1, 0, 0, 2, 3)})
	n.leads(false)
	outputs(t, n.hear(voteTell(2, 1, 1, true), 10), out{Recs: saved(noop(1, 1))})
	n.leads(true)
	n.isAt(1, 1, 1, 0)
	first := msg{Kind: api.MAppend, From: 1, To: 2, Term: 1, Round: 1, Entries: noops(1, 1)}
	second := first
	second.To = 3
	outputs(t, n.tick(10), sends(first, second))
	outputs(t, n.hear(appTell(3, 1, 1, true, 1, 1), 10), out{})
	n.isAt(1, 1, 1, 1)
	if !n.read(5) {
		t.Errorf("Read(5)")
	}
	first.Commit, first.Round = 1, 2
	second = msg{Kind: api.MAppend, From: 1, To: 3, Term: 1, Index: 1, LogTerm: 1, Commit: 1, Round: 2}
	outputs(t, n.tick(10), sends(first, second))
	outputs(t, n.hear(appTell(2, 1, 1, true, 1, 2), 10), out{Reads: []read{{Id: 5, Index: 1, Round: 2}}})
}

// P14.2: a node stands when its timeout is reached, and not before; its new timeout is the one that this Tick passes.
func TestTimeout(t *testing.T) {
	for wait := 10; wait <= 19; wait++ {
		n := open(t, 3, kept{Term: 6, Vote: 1, Snap: snapAt(4, 2, 7), Entries: noops(5, 3)}, wait)
		outputs(t, n.ticks(wait-1, 10), out{})
		n.isAt(6, 1, 0, 4)
		n.hasLeft(1)
		outputs(t, n.tick(29-wait), out{Recs: []rec{state(7, 3)}, Msgs: asks(3, 7, 5, 3, 1, 2)})
		n.isAt(7, 3, 0, 4)
		n.hasLeft(29 - wait)
		outputs(t, n.ticks(28-wait, 10), out{})
		outputs(t, n.tick(10), out{Recs: []rec{state(8, 3)}, Msgs: asks(3, 8, 5, 3, 1, 2)})
	}
}

// P14.2: a node that is no member never stands; once it is one, the ticks that passed count.
func TestTickOfNoMember(t *testing.T) {
	for _, members := range []uint8{0, 1, 7, 23, 224 + 7} {
		n := open(t, 4, kept{Term: 2, Snap: snapAt(3, 2, members)}, 10)
		for range 50 {
			outputs(t, n.tick(10), out{})
		}
		n.isAt(2, 0, 0, 3)
		n.hear(msg{Kind: api.MAppend, From: 1, To: 4, Term: 2, Index: 3, LogTerm: 2, Entries: []entry{membership(4, 2, 15)}}, 10)
		n.hasLeft(10)
		outputs(t, n.ticks(9, 10), out{})
		outputs(t, n.tick(10), out{Recs: []rec{state(3, 4)}, Msgs: asks(4, 3, 4, 2, 1, 2, 3)})
	}
}

// P14.2: a follower that loses the entry by which it was no member is one again, and stands.
func TestTickOfAMemberAgain(t *testing.T) {
	n := open(t, 1, kept{Term: 1, Snap: snapAt(1, 1, 7), Entries: []entry{membership(2, 1, 6)}}, 10)
	outputs(t, n.ticks(40, 10), out{})
	n.hasLeft(0)
	n.hear(msg{Kind: api.MAppend, From: 2, To: 1, Term: 2, Index: 1, LogTerm: 1, Entries: noops(2, 2)}, 14)
	outputs(t, n.ticks(13, 10), out{})
	outputs(t, n.tick(10), out{Recs: []rec{state(3, 1)}, Msgs: asks(1, 3, 2, 2, 2, 3)})
}

// P14.2: a round of a leader goes to each other member in ascending order, with Commit and Round.
func TestRound(t *testing.T) {
	for members := uint8(1); members < 32; members++ {
		if members&4 == 0 {
			continue
		}
		n := open(t, 3, among(members), 10)
		n.wins()
		commit := n.r.Commit()
		for round := uint64(1); round < 4; round++ {
			var want []msg
			for node := uint8(1); node <= 5; node++ {
				if node != 3 && members>>(node-1)&1 == 1 {
					want = append(want, msg{Kind: api.MAppend, From: 3, To: node, Term: 1, Commit: commit, Round: round, Entries: noops(1, 1)})
				}
			}
			outputs(t, n.tick(10), out{Msgs: want})
		}
	}
}

// P14.2: at most eight entries, from the next one on; a round that is not answered is sent again.
func TestEntriesOfARound(t *testing.T) {
	n := leaderOf(t, 3)
	for range 19 {
		n.propose(entry{Kind: api.ETick})
	}
	all := n.r.Entries(0, most)
	for round, x := range []struct{ told, index uint64 }{{1, 1}, {1, 1}, {2, 2}, {11, 11}, {12, 12}, {13, 13}, {19, 19}, {20, 20}} {
		n.hear(n.appTell(2, true, x.told, 0), 10)
		want := msg{Kind: api.MAppend, From: 1, To: 2, Term: 1, Index: x.index, LogTerm: 1, Commit: x.index, Round: uint64(round + 1), Entries: all[x.index:min(x.index+8, 20)]}
		outputs(t, n.tick(10), sends(want))
	}
}

// P14.2: LogTerm is that of the position before the next entry, which may be the log's beginning.
func TestLogTermOfARound(t *testing.T) {
	n := open(t, 1, kept{Term: 5, Snap: snapAt(4, 2, 3), Entries: noops(5, 3, 5)}, 10)
	n.wins()
	all := n.r.Entries(0, most)
	for round, x := range []struct{ index, term uint64 }{{6, 5}, {5, 3}, {4, 2}} {
		n.hear(n.appTell(2, false, x.index, 0), 10)
		want := msg{Kind: api.MAppend, From: 1, To: 2, Term: 6, Index: x.index, LogTerm: x.term, Commit: 4, Round: uint64(round + 1), Entries: all[x.index-4:]}
		outputs(t, n.tick(10), sends(want))
	}
}

// sectionOf is a section of a snapshot that the node 1 sends in the term 1.
func sectionOf(snap api.Snap, to, section uint8, commit, round uint64) msg {
	return msg{Kind: api.MSection, From: 1, To: to, Term: 1, Index: snap.Index, LogTerm: snap.Term, Members: snap.Members, Section: section, Body: snap.Sections[section], Commit: commit, Round: round}
}

// P14.2: if the next entry was truncated, the section that is due of the newest snapshot is sent; one that is being sent stays the same till it is there, however often the log is cut meanwhile.
func TestSections(t *testing.T) {
	n := leaderOf(t, 7)
	for range 5 {
		n.propose(entry{Kind: api.ETick})
	}
	n.agrees(3, 0)
	old, newer, newest := snapAt(2, 1, 7), snapAt(4, 1, 7), snapAt(5, 1, 7)
	n.cut(old)
	// The next entry of 2 is the second one, as it has the first.
	o := n.tick(10)
	outputs(t, o, sends(sectionOf(old, 2, 0, 6, 1), msg{Kind: api.MAppend, From: 1, To: 3, Term: 1, Index: 6, LogTerm: 1, Commit: 6, Round: 1}))
	n.cut(newer)
	for section := range uint8(5) {
		n.hear(n.secTell(2, 2, section, 0), 10)
		outputs(t, sends(n.tick(10).Msgs[0]), sends(sectionOf(old, 2, section, 6, uint64(section)+2)))
	}
	n.cut(newest)
	n.hear(n.appTell(2, true, 2, 0), 10)
	outputs(t, sends(n.tick(10).Msgs[0]), sends(sectionOf(newest, 2, 0, 6, 7)))
	n.hear(n.secTell(2, 2, 3, 0), 10)
	n.hear(n.secTell(2, 4, 3, 0), 10)
	outputs(t, sends(n.tick(10).Msgs[0]), sends(sectionOf(newest, 2, 0, 6, 8)))
	n.hear(n.secTell(2, 5, 4, 0), 10)
	outputs(t, sends(n.tick(10).Msgs[0]), sends(sectionOf(newest, 2, 4, 6, 9)))
	n.hear(n.appTell(2, true, 5, 0), 10)
	outputs(t, sends(n.tick(10).Msgs[0]), sends(msg{Kind: api.MAppend, From: 1, To: 2, Term: 1, Index: 5, LogTerm: 1, Commit: 6, Round: 10, Entries: tickAt(6)}))
}

// tickAt is the entry ETick of the term 1 at an index.
func tickAt(index uint64) []entry {
	return []entry{{Index: index, Term: 1, Kind: api.ETick}}
}

// P14.2: a peer's next entry is truncated if its index is not above the beginning's.
func TestNeedsASnapshot(t *testing.T) {
	for cut := uint64(2); cut <= 6; cut++ {
		n := leaderOf(t, 7)
		for range 5 {
			n.propose(entry{Kind: api.ETick})
		}
		n.agrees(3, 0)
		n.hear(n.appTell(2, true, 3, 0), 10)
		n.cut(snapAt(cut, 1, 7))
		m := n.tick(10).Msgs[0]
		if want := map[bool]uint8{true: api.MSection, false: api.MAppend}[cut >= 4]; m.Kind != want {
			t.Errorf("cut at %d, the next one is 4: %+v", cut, m)
		}
	}
}

// P14.2: a node that refuses entries while a snapshot is being sent to it goes on being sent that.
func TestSnapshotGoesOn(t *testing.T) {
	n := leaderOf(t, 7)
	n.propose(entry{Kind: api.ETick})
	n.agrees(3, 0)
	snap := snapAt(2, 1, 7)
	n.cut(snap)
	n.tick(10)
	n.hear(n.secTell(2, 2, 1, 0), 10)
	n.hear(n.appTell(2, false, 0, 0), 10)
	n.hear(n.appTell(2, true, 1, 0), 10)
	outputs(t, sends(n.tick(10).Msgs[0]), sends(sectionOf(snap, 2, 1, 2, 2)))
}

// P14.2: reads are begun only once the leader's own term is committed: what was committed before it may be more than it knows.
func TestReadsBeforeTheOwnTerm(t *testing.T) {
	n := open(t, 1, kept{Term: 4, Snap: snapAt(3, 2, 7), Entries: noops(4, 3, 3)}, 10)
	n.wins()
	n.read(8)
	n.tick(10)
	for _, from := range []uint8{2, 3} {
		outputs(t, n.hear(n.appTell(from, true, 5, 1), 10), out{})
	}
	n.isAt(5, 1, 1, 3)
	n.tick(10)
	outputs(t, n.hear(n.appTell(2, true, 6, 2), 10), out{})
	n.isAt(5, 1, 1, 6)
	n.read(9)
	outputs(t, n.hear(n.appTell(3, true, 6, 2), 10), out{})
	n.tick(10)
	outputs(t, n.hear(n.appTell(2, true, 6, 2), 10), out{})
	outputs(t, n.hear(n.appTell(3, true, 6, 3), 10), out{Reads: []read{{Id: 8, Index: 6, Round: 3}, {Id: 9, Index: 6, Round: 3}}})
}

// P14.2: a majority alone answers reads: in a cluster of one, in the tick that begins them.
func TestReadsOfOne(t *testing.T) {
	n := leaderOf(t, 1)
	n.read(3)
	n.read(1)
	outputs(t, n.tick(10), out{Reads: []read{{Id: 3, Index: 1, Round: 1}, {Id: 1, Index: 1, Round: 1}}})
	outputs(t, n.tick(10), out{})
	n.propose(entry{Kind: api.ETick})
	n.read(3)
	outputs(t, n.tick(10), out{Reads: []read{{Id: 3, Index: 2, Round: 3}}})
}

// P14.2: rounds count of members alone, and that of the node itself only if it is one.
func TestReadsOfMembers(t *testing.T) {
	n := leaderOf(t, 7)
	n.read(1)
	n.tick(10)
	outputs(t, n.hear(n.appTell(4, true, 1, 1), 10), out{})
	outputs(t, n.hear(n.appTell(5, true, 1, 1), 10), out{})
	outputs(t, n.hear(n.appTell(2, true, 1, 1), 10), out{Reads: []read{{Id: 1, Index: 1, Round: 1}}})
	if _, _, code := n.change(6); code != api.ROK {
		t.Fatalf("Change: %d", code)
	}
	n.read(2)
	n.tick(10)
	outputs(t, n.hear(n.appTell(3, true, 1, 2), 10), out{})
	outputs(t, n.hear(n.appTell(2, true, 1, 2), 10), out{Reads: []read{{Id: 2, Index: 1, Round: 2}}})
}

// P14.2: what was asked for since a round began waits for the next one; each list is in its order.
func TestReadsOfTwoRounds(t *testing.T) {
	n := leaderOf(t, 7)
	n.read(9)
	n.tick(10)
	n.read(4)
	n.propose(entry{Kind: api.ETick})
	n.tick(10)
	n.read(7)
	outputs(t, n.hear(n.appTell(2, true, 2, 1), 10), out{Reads: []read{{Id: 9, Index: 1, Round: 1}}})
	outputs(t, out{Reads: n.tick(10).Reads}, out{})
	outputs(t, n.hear(n.appTell(2, true, 2, 3), 10), out{Reads: []read{{Id: 4, Index: 1, Round: 2}, {Id: 7, Index: 2, Round: 3}}})
}
