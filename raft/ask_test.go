package raft_test

import (
	"strings"
	"testing"

	"wapentake/api"
)

// P14.4: a leader appends what is proposed, as an entry of its term, saves it and returns it.
func TestPropose(t *testing.T) {
	n := open(t, 1, kept{Term: 6, Snap: snapAt(4, 2, 7), Entries: noops(5, 3)}, 10)
	n.wins()
	for i, e := range []entry{
		{Kind: api.EData, Slot: 3, Token: api.Token{1, 7: 9}, Body: "x"}, {Kind: api.EData}, {Kind: api.EOper, Body: strings.Repeat("y", 5000)}, {Kind: api.ETick}, {Kind: api.ENoop},
	} {
		got, o, ok := n.propose(e)
		e.Index, e.Term = uint64(7+i), 7
		if got != e || !ok {
			t.Errorf("Propose: %v, %v, not %v", got, ok, e)
		}
		outputs(t, o, out{Recs: saved(e)})
		n.isAt(7, 1, 1, 4)
	}
	if got := n.r.Entries(7, 2); len(got) != 2 || got[0].Body != "x" || got[0].Token != (api.Token{1, 7: 9}) || got[0].Slot != 3 {
		t.Errorf("Entries: %v", got)
	}
}

// P14.4: what the only member proposes is committed at once.
func TestProposeOfOne(t *testing.T) {
	n := leaderOf(t, 1)
	for index := uint64(2); index < 9; index++ {
		_, o, _ := n.propose(entry{Kind: api.ETick})
		outputs(t, o, out{Recs: saved(tickAt(index)...)})
		n.isAt(1, 1, 1, index)
	}
}

// P14.4: who does not lead proposes, changes, hands over and reads nothing.
func TestAskedOfOneThatDoesNotLead(t *testing.T) {
	for _, role := range []string{"follower", "candidate"} {
		n := inRole(t, role)
		if e, o, ok := n.propose(entry{Kind: api.ETick}); e != (entry{}) || !sameOut(o, out{}) || ok {
			t.Errorf("%s: Propose: %v, %v, %v", role, e, o, ok)
		}
		for members := range 256 {
			if e, o, code := n.change(uint8(members)); e != (entry{}) || !sameOut(o, out{}) || code != api.RConflict {
				t.Errorf("%s: Change: %v, %v, %d", role, e, o, code)
			}
			if o, ok := n.lead(uint8(members)); !sameOut(o, out{}) || ok {
				t.Errorf("%s: Lead: %v, %v", role, o, ok)
			}
		}
		if n.read(1) {
			t.Errorf("%s: Read", role)
		}
		n.hasTerms(1, 2)
	}
}

// P14.4: members change by one node at a time, to what is a membership.
func TestChange(t *testing.T) {
	for from := uint8(1); from < 32; from++ {
		if from&1 == 0 {
			continue
		}
		for to := range 256 {
			n := leaderOf(t, from)
			e, o, code := n.change(uint8(to))
			differ := 0
			for bit := range 8 {
				differ += (int(from) ^ to) >> bit & 1
			}
			if to == 0 || to > 31 || differ != 1 {
				if e != (entry{}) || code != api.RWrong {
					t.Errorf("Change of %d to %d: %v, %d", from, to, e, code)
				}
				outputs(t, o, out{})
				continue
			}
			if want := membership(2, 1, uint8(to)); e != want || code != api.ROK || n.r.Members() != uint8(to) {
				t.Errorf("Change of %d to %d: %v, %d", from, to, e, code)
			}
			outputs(t, o, out{Recs: saved(membership(2, 1, uint8(to)))})
			n.leads(true)
		}
	}
}

// P14.4: members change neither before the leader's own term is committed, nor before the last change is: RConflict, whatever they are.
func TestChangeTooSoon(t *testing.T) {
	n := open(t, 1, kept{Term: 1, Snap: api.Snap{Members: 7}, Entries: noops(1, 1, 1)}, 10)
	n.hear(msg{Kind: api.MAppend, From: 2, To: 1, Term: 1, Index: 2, LogTerm: 1, Commit: 2}, 10)
	n.wins()
	code := func(members, want uint8) {
		t.Helper()
		if _, o, got := n.change(members); got != want || got != api.ROK && !sameOut(o, out{}) {
			t.Errorf("Change(%d): %d, not %d", members, got, want)
		}
	}
	refuses := func() {
		t.Helper()
		for _, members := range []uint8{0, 3, 6, 7, 15, 31, 32, 255} {
			code(members, api.RConflict)
		}
	}
	refuses()
	n.hear(n.appTell(2, true, 2, 0), 10)
	refuses()
	n.agrees(2, 0)
	code(7, api.RWrong)
	code(15, api.ROK)
	refuses()
	n.hear(n.appTell(2, true, 4, 0), 10)
	refuses()
	n.hear(n.appTell(4, true, 4, 0), 10)
	code(15, api.RWrong)
	code(3, api.RWrong)
	code(7, api.ROK)
	n.isAt(2, 1, 1, 4)
}

// P14.4: the members at the log's beginning are committed; so are those of a change up to the commit index.
func TestChangeOfWhatIsCommitted(t *testing.T) {
	n := open(t, 1, kept{Term: 1, Snap: api.Snap{Members: 3}, Entries: []entry{membership(1, 1, 7)}}, 10)
	n.wins()
	n.hear(n.appTell(2, true, 1, 0), 10)
	if _, _, code := n.change(15); code != api.RConflict {
		t.Errorf("Change: %d", code)
	}
	n.hear(n.appTell(2, true, 2, 0), 10)
	if _, _, code := n.change(15); code != api.ROK {
		t.Errorf("Change: %d", code)
	}
}

// P14.4: a change of a cluster of one to two needs the second one's log; then the first one may leave.
func TestChangeOfOne(t *testing.T) {
	n := leaderOf(t, 1)
	if _, _, code := n.change(3); code != api.ROK {
		t.Fatalf("Change: %d", code)
	}
	n.isAt(1, 1, 1, 1)
	n.agrees(2, 0)
	n.isAt(1, 1, 1, 2)
	n.change(2)
	n.leads(true)
	outputs(t, n.hear(n.appTell(2, true, 3, 0), 10), out{Lost: true})
}

// P14.4: leadership goes to another member alone.
func TestLeadToNoOther(t *testing.T) {
	n := leaderOf(t, 7)
	for to := range 256 {
		o, ok := n.lead(uint8(to))
		if want := to == 2 || to == 3; ok != want || !want && !sameOut(o, out{}) {
			t.Errorf("Lead(%d): %v, %v", to, o, ok)
		}
	}
}

// standNow is what the node 1 sends to the transfer target in the term 1.
func standNow(to uint8) msg {
	return msg{Kind: api.MStandNow, From: 1, To: to, Term: 1}
}

// P14.4: a node that has the whole log is told to stand at once, and once.
func TestLeadToOneThatHasAll(t *testing.T) {
	n := leaderOf(t, 7)
	for range 2 {
		o, ok := n.lead(2)
		if !ok {
			t.Errorf("Lead(2): false")
		}
		outputs(t, o, sends(standNow(2)))
		outputs(t, n.agrees(2, 0), out{})
	}
	n.leads(true)
}

// P14.4, P14.3: a node that has not is told as soon as it has, and not by what another node answers.
func TestLeadToOneThatHasNot(t *testing.T) {
	n := leaderOf(t, 7)
	n.propose(entry{Kind: api.ETick})
	n.propose(entry{Kind: api.ETick})
	if o, ok := n.lead(2); !ok || !sameOut(o, out{}) {
		t.Errorf("Lead(2): %v, %v", o, ok)
	}
	outputs(t, n.hear(n.appTell(3, true, 3, 0), 10), out{})
	outputs(t, n.hear(n.appTell(2, true, 2, 0), 10), out{})
	outputs(t, n.hear(n.appTell(2, false, 2, 0), 10), out{})
	outputs(t, n.hear(n.secTell(2, 3, 1, 0), 10), out{})
	n.propose(entry{Kind: api.ETick})
	outputs(t, n.hear(n.appTell(2, true, 3, 0), 10), out{})
	outputs(t, n.hear(n.appTell(2, true, 4, 0), 10), sends(standNow(2)))
	outputs(t, n.hear(n.appTell(2, true, 4, 0), 10), out{})
}

// P14.3: an Index above the last one is the last one for the transfer target, too; a refusal from it is no match.
func TestLeadToOneThatTellsTooMuch(t *testing.T) {
	n := leaderOf(t, 7)
	n.propose(entry{Kind: api.ETick})
	n.lead(2)
	outputs(t, n.hear(n.appTell(2, true, 99, 0), 10), sends(standNow(2)))
	n.propose(entry{Kind: api.ETick})
	n.lead(2)
	outputs(t, n.hear(n.appTell(2, false, 99, 0), 10), out{})
}

// P14.4: the last target is the one; another one that was refused is none.
func TestLeadToAnother(t *testing.T) {
	n := leaderOf(t, 7)
	n.propose(entry{Kind: api.ETick})
	n.lead(2)
	n.lead(3)
	n.lead(1)
	n.lead(4)
	outputs(t, n.agrees(2, 0), out{})
	outputs(t, n.agrees(3, 0), sends(standNow(3)))
	n.propose(entry{Kind: api.ETick})
	n.lead(2)
	n.agrees(3, 0)
	// To 3 at once, and none is the target any more.
	o, _ := n.lead(3)
	outputs(t, o, sends(standNow(3)))
	outputs(t, n.agrees(2, 0), out{})
}

// P14.4: the newest members count, committed or not; a target that left them since still is the target.
func TestLeadOfNewMembers(t *testing.T) {
	n := leaderOf(t, 7)
	n.change(15)
	if _, ok := n.lead(4); !ok {
		t.Errorf("Lead(4): false")
	}
	n.agrees(2, 0)
	n.agrees(3, 0)
	n.change(7)
	if _, ok := n.lead(4); ok {
		t.Errorf("Lead(4): true")
	}
	outputs(t, n.agrees(4, 0), sends(standNow(4)))
}

// P14.4: a leader of another term has no target.
func TestLeadOfAnotherTerm(t *testing.T) {
	n := leaderOf(t, 7)
	n.propose(entry{Kind: api.ETick})
	n.lead(2)
	n.hear(msg{Kind: api.MVoteTell, From: 3, To: 1, Term: 4}, 10)
	n.wins()
	outputs(t, n.agrees(2, 0), out{})
}

// P14.4: a leader that is out of the members may hand over to one that is in them.
func TestLeadOfOneThatIsOut(t *testing.T) {
	n := leaderOf(t, 7)
	n.change(6)
	n.hear(n.appTell(2, true, 2, 0), 10)
	o, ok := n.lead(2)
	if !ok {
		t.Errorf("Lead(2): false")
	}
	outputs(t, o, sends(standNow(2)))
}

// P14.4: each id is read once at a time; ids of reads that were output are free again, and those of another term, too.
func TestRead(t *testing.T) {
	n := leaderOf(t, 7)
	reads := func(id uint64, want bool) {
		t.Helper()
		if got := n.read(id); got != want {
			t.Errorf("Read(%d): %v", id, got)
		}
	}
	reads(0, true)
	reads(greatest, true)
	reads(0, false)
	n.tick(10)
	reads(0, false)
	reads(3, true)
	outputs(t, n.hear(n.appTell(2, true, 1, 1), 10), out{Reads: []read{{Id: 0, Index: 1, Round: 1}, {Id: greatest, Index: 1, Round: 1}}})
	reads(0, true)
	reads(3, false)
	n.hear(msg{Kind: api.MVoteTell, From: 3, To: 1, Term: 4}, 10)
	reads(7, false)
	n.wins()
	reads(3, true)
	n.agrees(2, 0)
	n.tick(10)
	outputs(t, n.hear(n.appTell(2, true, 2, 1), 10), out{Reads: []read{{Id: 3, Index: 2, Round: 1}}})
}
