package raft_test

import (
	"testing"

	"wapentake/api"
)

// sectionTo is a section that the node 1 sends to 2 in the term 5.
func sectionTo(snap api.Snap, section uint8) msg {
	m := msg{Kind: api.MSection, From: 1, To: 2, Term: 5, Index: snap.Index, LogTerm: snap.Term, Members: snap.Members, Section: section, Commit: 99, Round: 6}
	if section < 5 {
		m.Body = snap.Sections[section]
	}
	return m
}

// lacks is the answer of 2 that it lacks a section.
func lacks(index uint64, section uint8) msg {
	return msg{Kind: api.MSecTell, From: 2, To: 1, Term: 5, Index: index, Section: section, Round: 6}
}

// P14.3: the answer to a section tells the first one that is missing; the last missing one installs the snapshot, in whatever order they come.
func TestSectionsInAnyOrder(t *testing.T) {
	snap := snapAt(9, 4, 15)
	for order := range 120 {
		n := behind(t, 5, 3, 3)
		left, rest := []uint8{0, 1, 2, 3, 4}, order
		stored := [5]bool{}
		for count := 5; count > 0; count-- {
			section := left[rest%count]
			left = append(append([]uint8{}, left[:rest%count]...), left[rest%count+1:]...)
			rest /= count
			stored[section] = true
			o := n.hear(sectionTo(snap, section), 15)
			n.hasLeft(15)
			if count == 1 {
				outputs(t, o, out{Install: true, Snap: snap, Msgs: []msg{tells(true, 9)}})
				continue
			}
			missing := uint8(0)
			for stored[missing] {
				missing++
			}
			outputs(t, o, sends(lacks(9, missing)))
			n.isAt(5, 0, 1, 5)
			n.hasTerms(3, 3)
		}
		n.isAt(5, 0, 1, 9)
		n.hasTerms()
		if index, term := n.r.Last(); n.r.Snap() != snap || n.r.Members() != 15 || index != 9 || term != 4 {
			t.Fatalf("%v, %d, %d %d", n.r.Snap(), n.r.Members(), index, term)
		}
	}
}

// P14.3: a section whose Index is not above the commit index is told as a match, and nothing of it is stored.
func TestSectionNotAboveTheCommit(t *testing.T) {
	n := behind(t, 6, 3, 3, 4)
	for index := uint64(0); index <= 6; index++ {
		for _, section := range []uint8{0, 1, 2, 3, 4, 5, 255} {
			outputs(t, n.hear(sectionTo(snapAt(index, 9, 1), section), 15), sends(tells(true, index)))
			n.hasLeft(15)
		}
	}
	n.hasTerms(3, 3, 4)
	n.isAt(5, 0, 1, 6)
	outputs(t, n.hear(sectionTo(snapAt(7, 4, 7), 0), 15), sends(lacks(7, 1)))
}

// P14.3: sections of a snapshot with another Index, LogTerm or Members are discarded, also if the first one of the other snapshot is none.
func TestSectionsOfAnotherSnapshot(t *testing.T) {
	snap := snapAt(9, 4, 7)
	for _, other := range []api.Snap{snapAt(8, 4, 7), snapAt(10, 4, 7), snapAt(9, 3, 7), snapAt(9, 5, 7), snapAt(9, 4, 15), snapAt(9, 4, 3)} {
		for _, section := range []uint8{0, 3, 4, 5, 255} {
			n := behind(t, 5, 3, 3)
			for first := range uint8(3) {
				outputs(t, n.hear(sectionTo(snap, first), 10), sends(lacks(9, first+1)))
			}
			missing := uint8(0)
			if section == 0 {
				missing = 1
			}
			outputs(t, n.hear(sectionTo(other, section), 10), sends(lacks(other.Index, missing)))
			outputs(t, n.hear(sectionTo(snap, 3), 10), sends(lacks(9, 0)))
			for first := range uint8(3) {
				want := first + 1
				if first == 2 {
					want = 4
				}
				outputs(t, n.hear(sectionTo(snap, first), 10), sends(lacks(9, want)))
			}
			outputs(t, n.hear(sectionTo(snap, 4), 10), out{Install: true, Snap: snap, Msgs: []msg{tells(true, 9)}})
		}
	}
}

// P14.3: a number above 4 is no section's: nothing is stored, and the answer tells what is missing.
func TestSectionThatIsNone(t *testing.T) {
	snap := snapAt(9, 4, 7)
	n := behind(t, 5, 3, 3)
	for section := 5; section < 256; section++ {
		outputs(t, n.hear(sectionTo(snap, uint8(section)), 10), sends(lacks(9, 0)))
	}
	for section := range uint8(4) {
		n.hear(sectionTo(snap, section), 10)
		outputs(t, n.hear(sectionTo(snap, section+5), 10), sends(lacks(9, section+1)))
		outputs(t, n.hear(sectionTo(snap, 255), 10), sends(lacks(9, section+1)))
	}
	outputs(t, n.hear(sectionTo(snap, 4), 10), out{Install: true, Snap: snap, Msgs: []msg{tells(true, 9)}})
	outputs(t, n.hear(sectionTo(snap, 5), 10), sends(tells(true, 9)))
}

// P14.3: a section that comes twice is stored as it came last; sections without bytes are sections.
func TestSectionThatComesTwice(t *testing.T) {
	snap := api.Snap{Index: 9, Term: 4, Members: 7}
	snap.Sections[1] = "second"
	n := behind(t, 5, 3, 3)
	first := sectionTo(snap, 1)
	first.Body = "first"
	outputs(t, n.hear(first, 10), sends(lacks(9, 0)))
	outputs(t, n.hear(sectionTo(snap, 1), 10), sends(lacks(9, 0)))
	for _, section := range []uint8{0, 0, 2, 3} {
		n.hear(sectionTo(snap, section), 10)
	}
	outputs(t, n.hear(sectionTo(snap, 4), 10), out{Install: true, Snap: snap, Msgs: []msg{tells(true, 9)}})
}

// P14.3: what is stored of a snapshot stays over another leader, another term and the node's own elections.
func TestSectionsOverTerms(t *testing.T) {
	snap := snapAt(9, 4, 7)
	n := behind(t, 5, 3, 3)
	n.hear(sectionTo(snap, 0), 10)
	n.hear(sectionTo(snap, 2), 10)
	n.stands()
	x := sectionTo(snap, 1)
	x.From, x.Term = 3, 8
	outputs(t, n.hear(x, 10), out{Recs: []rec{state(8, 0)}, Msgs: []msg{{Kind: api.MSecTell, From: 2, To: 3, Term: 8, Index: 9, Section: 3, Round: 6}}})
	n.isAt(8, 0, 3, 5)
	n.wins()
	x.From, x.Term, x.Section, x.Body = 1, 11, 3, snap.Sections[3]
	outputs(t, n.hear(x, 10), out{Recs: []rec{state(11, 0)}, Lost: true, Msgs: []msg{{Kind: api.MSecTell, From: 2, To: 1, Term: 11, Index: 9, Section: 4, Round: 6}}})
	x.Section, x.Body = 4, snap.Sections[4]
	outputs(t, n.hear(x, 10), out{Install: true, Snap: snap, Msgs: []msg{appTell(2, 1, 11, true, 9, 6)}})
}

// P14.3: the last section may come with a greater term: the record of that is output as well.
func TestInstallInANewTerm(t *testing.T) {
	snap := snapAt(9, 4, 7)
	n := behind(t, 5, 3, 3)
	for section := range uint8(4) {
		n.hear(sectionTo(snap, section), 10)
	}
	x := sectionTo(snap, 4)
	x.Term = 6
	outputs(t, n.hear(x, 10), out{Recs: []rec{state(6, 0)}, Install: true, Snap: snap, Msgs: []msg{appTell(2, 1, 6, true, 9, 6)}})
	n.isAt(6, 0, 1, 9)
}

// P14.3: entries behind a snapshot are kept if the log has its term at its Index, and otherwise not.
func TestEntriesBehindASnapshot(t *testing.T) {
	for _, x := range []struct {
		index, term uint64
		left        []uint64
	}{{6, 3, []uint64{4, 4}}, {6, 4, nil}, {7, 4, []uint64{4}}, {7, 3, nil}, {8, 4, nil}, {9, 4, nil}} {
		n := behind(t, 5, 3, 3, 4, 4)
		snap := snapAt(x.index, x.term, 3)
		var o out
		for section := range uint8(5) {
			o = n.hear(sectionTo(snap, section), 10)
		}
		outputs(t, o, out{Install: true, Snap: snap, Msgs: []msg{tells(true, x.index)}})
		n.hasTerms(x.left...)
		n.isAt(5, 0, 1, x.index)
	}
}

// P14.3: a commit index that passes the snapshot under way makes its sections useless.
func TestSectionsThatAreOvertaken(t *testing.T) {
	snap := snapAt(6, 3, 7)
	n := behind(t, 5, 3, 3, 4)
	for section := range uint8(4) {
		n.hear(sectionTo(snap, section), 10)
	}
	n.hear(appends(6, 3, 6), 10)
	outputs(t, n.hear(sectionTo(snap, 4), 10), sends(tells(true, 6)))
	if n.r.Snap().Index != 4 {
		t.Errorf("Snap: %v", n.r.Snap())
	}
}

// P14.3: MSection makes a candidate a follower that knows the leader.
func TestSectionToACandidate(t *testing.T) {
	for _, index := range []uint64{0, 9} {
		n := inRole(t, "candidate")
		n.ticks(5, 10)
		n.hear(msg{Kind: api.MSection, From: 3, To: 1, Term: 3, Index: index}, 14)
		n.isAt(3, 1, 3, 0)
		n.hasLeft(14)
	}
}

// P14.3: a leader sends the section that is told as missing next, of the snapshot that is being sent; above 4 there is none, but the Round counts.
func TestSecTell(t *testing.T) {
	n := leaderOf(t, 7)
	n.propose(entry{Kind: api.ETick})
	n.agrees(3, 0)
	snap := snapAt(2, 1, 7)
	n.cut(snap)
	n.hear(n.secTell(2, 2, 3, 0), 10)
	round := uint64(0)
	due := func(section uint8) {
		t.Helper()
		round++
		outputs(t, sends(n.tick(10).Msgs[0]), sends(sectionOf(snap, 2, section, 2, round)))
	}
	due(0)
	for _, x := range []struct {
		index        uint64
		section, due uint8
	}{{2, 1, 1}, {2, 4, 4}, {2, 2, 2}, {2, 5, 2}, {2, 6, 2}, {2, 255, 2}, {1, 3, 2}, {3, 3, 2}, {0, 3, 2}, {2, 0, 0}} {
		outputs(t, n.hear(n.secTell(2, x.index, x.section, round), 10), out{})
		due(x.due)
	}
	if n.r.Match(2) != 1 {
		t.Errorf("Match: %d", n.r.Match(2))
	}
	n.read(7)
	due(0)
	outputs(t, n.hear(n.secTell(2, 2, 200, round), 10), out{Reads: []read{{Id: 7, Index: 2, Round: round}}})
	n.hear(n.secTell(2, 2, 1, 1), 10)
	n.read(8)
	due(1)
	outputs(t, n.hear(n.secTell(2, 9, 1, round), 10), out{Reads: []read{{Id: 8, Index: 2, Round: round}}})
}
