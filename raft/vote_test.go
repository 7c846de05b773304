package raft_test

import (
	"testing"

	"wapentake/api"
)

// inRole makes a node 1 of the term 3 among 1, 2 and 3, whose log has ENoop 1 1 and 2 2 (and, for a leader, 3 3), and nothing committed.
func inRole(t *testing.T, role string) *node {
	t.Helper()
	k := among(7)
	k.Term, k.Entries = 2, noops(1, 1, 2)
	if role == "follower" {
		k.Term = 3
		return open(t, 1, k, 12)
	}
	n := open(t, 1, k, 12)
	n.ticks(12, 12)
	if role == "leader" {
		n.hear(n.voteTell(2, true), 12)
	}
	if n.m.role != role || n.r.Term() != 3 {
		t.Fatalf("role %s, term %d", n.m.role, n.r.Term())
	}
	return n
}

var roles = []string{"follower", "candidate", "leader"}

// P14.3: a message that is not for the node, or from what is no other node, or of an unknown Kind, does nothing, whatever its term is.
func TestHearOfNothing(t *testing.T) {
	for _, role := range roles {
		n := inRole(t, role)
		left := n.r.Left()
		for kind := range 256 {
			for _, term := range []uint64{2, 3, 4, greatest} {
				x := msg{Kind: uint8(kind), From: 2, To: 1, Term: term, Index: 9, LogTerm: 9, OK: true, Round: 1}
				if kind < 1 || kind > 7 {
					outputs(t, n.hear(x, 15), out{})
				}
				for _, to := range []uint8{0, 2, 3, 4, 5, 6, 9, 33, 255} {
					x.To = to
					outputs(t, n.hear(x, 15), out{})
				}
				x.To = 1
				for _, from := range []uint8{0, 1, 6, 7, 9, 34, 128, 255} {
					x.From = from
					outputs(t, n.hear(x, 15), out{})
				}
			}
		}
		n.isAt(3, n.r.Vote(), n.r.Leader(), 0)
		n.hasLeft(left)
		n.leads(role == "leader")
	}
}

// P14.3: a message of a lower term does nothing but, for three Kinds, an answer with the node's term, and without the Round.
func TestHearOfALowerTerm(t *testing.T) {
	for _, role := range roles {
		n := inRole(t, role)
		left, vote, leader := n.r.Left(), n.r.Vote(), n.r.Leader()
		for kind := uint8(1); kind <= 7; kind++ {
			for _, term := range []uint64{0, 1, 2} {
				want := out{}
				switch kind {
				case api.MVote:
					want = sends(voteTell(1, 4, 3, false))
				case api.MAppend, api.MSection:
					want = sends(appTell(1, 4, 3, false, 0, 0))
				}
				x := msg{Kind: kind, From: 4, To: 1, Term: term, Index: 2, LogTerm: 2, Commit: 2, Round: 7, OK: true, Members: 7, Entries: noops(3, 2)}
				outputs(t, n.hear(x, 19), want)
			}
		}
		n.isAt(3, vote, leader, 0)
		n.hasLeft(left)
		n.leads(role == "leader")
	}
}

// P14.3: a message of a greater term, of any Kind, lets the node enter it first; a leader has lost then.
func TestHearOfAGreaterTerm(t *testing.T) {
	for _, role := range roles {
		last := uint64(2)
		if role == "leader" {
			last = 3
		}
		for kind, want := range map[uint8]out{
			api.MVote:     {Recs: []rec{state(5, 0), state(5, 2)}, Msgs: []msg{voteTell(1, 2, 5, true)}},
			api.MVoteTell: {Recs: []rec{state(5, 0)}},
			api.MAppend:   {Recs: []rec{state(5, 0)}, Msgs: []msg{appTell(1, 2, 5, false, last, 9)}},
			api.MAppTell:  {Recs: []rec{state(5, 0)}},
			api.MSection:  {Recs: []rec{state(5, 0)}, Msgs: []msg{{Kind: api.MSecTell, From: 1, To: 2, Term: 5, Index: 8, Section: 1, Round: 9}}},
			api.MSecTell:  {Recs: []rec{state(5, 0)}},
			api.MStandNow: {Recs: []rec{state(5, 0), state(6, 1)}, Msgs: asks(1, 6, last, last, 2, 3)},
		} {
			n := inRole(t, role)
			want.Lost = role == "leader"
			outputs(t, n.hear(msg{Kind: kind, From: 2, To: 1, Term: 5, Index: 8, LogTerm: 4, Round: 9, OK: true, Members: 7}, 10), want)
			n.leads(false)
		}
	}
}

// P14.3: a message of a greater term whose answer is no still lets the node enter that term, and its timer goes on.
func TestTermWithoutAVote(t *testing.T) {
	n := inRole(t, "follower")
	n.ticks(4, 10)
	x := msg{Kind: api.MVote, From: 2, To: 1, Term: 4, Index: 9, LogTerm: 1}
	outputs(t, n.hear(x, 19), out{Recs: []rec{state(4, 0)}, Msgs: []msg{voteTell(1, 2, 4, false)}})
	n.isAt(4, 0, 0, 0)
	n.hasLeft(8)
}

// P14.3: a node votes once in a term, and for the same node again, which is no change.
func TestVotesOfATerm(t *testing.T) {
	n := inRole(t, "follower")
	ask := func(from uint8, term uint64) out {
		t.Helper()
		return n.hear(msg{Kind: api.MVote, From: from, To: 1, Term: term, Index: 2, LogTerm: 2}, 16)
	}
	n.ticks(3, 10)
	outputs(t, ask(3, 3), out{Recs: []rec{state(3, 3)}, Msgs: []msg{voteTell(1, 3, 3, true)}})
	n.hasLeft(16)
	n.ticks(3, 10)
	outputs(t, ask(3, 3), sends(voteTell(1, 3, 3, true)))
	n.hasLeft(16)
	n.ticks(3, 10)
	outputs(t, ask(2, 3), sends(voteTell(1, 2, 3, false)))
	outputs(t, ask(5, 3), sends(voteTell(1, 5, 3, false)))
	n.hasLeft(13)
	outputs(t, ask(5, 4), out{Recs: []rec{state(4, 0), state(4, 5)}, Msgs: []msg{voteTell(1, 5, 4, true)}})
	n.isAt(4, 5, 0, 0)
}

// P14.3: a vote that was kept binds the node that comes up.
func TestVoteThatWasKept(t *testing.T) {
	n := open(t, 1, kept{Term: 3, Vote: 2, Snap: api.Snap{Members: 7}}, 10)
	outputs(t, n.hear(msg{Kind: api.MVote, From: 3, To: 1, Term: 3}, 10), sends(voteTell(1, 3, 3, false)))
	outputs(t, n.hear(msg{Kind: api.MVote, From: 2, To: 1, Term: 3}, 10), sends(voteTell(1, 2, 3, true)))
}

// P14.3: a vote is given only to a log that is as new: of a greater last term, or of the same one and not shorter.
func TestVoteForALog(t *testing.T) {
	for index := uint64(0); index < 8; index++ {
		for term := uint64(0); term < 6; term++ {
			n := open(t, 1, kept{Term: 6, Snap: snapAt(3, 2, 7), Entries: noops(4, 2, 3)}, 10)
			n.ticks(2, 10)
			ok := term > 3 || term == 3 && index >= 5
			want := sends(voteTell(1, 2, 6, ok))
			if ok {
				want.Recs = []rec{state(6, 2)}
			}
			outputs(t, n.hear(msg{Kind: api.MVote, From: 2, To: 1, Term: 6, Index: index, LogTerm: term}, 15), want)
			n.hasLeft(map[bool]int{true: 15, false: 8}[ok])
		}
	}
}

// P14.3: neither a candidate nor a leader votes for another node in its term, not even a leader whose vote that node has; and who knows a leader does.
func TestVoteInARole(t *testing.T) {
	for _, role := range []string{"candidate", "leader"} {
		n := inRole(t, role)
		outputs(t, n.hear(msg{Kind: api.MVote, From: 2, To: 1, Term: 3, Index: 9, LogTerm: 9}, 10), sends(voteTell(1, 2, 3, false)))
		n.leads(role == "leader")
	}
	n := inRole(t, "follower")
	n.hear(msg{Kind: api.MAppend, From: 3, To: 1, Term: 3}, 10)
	outputs(t, n.hear(msg{Kind: api.MVote, From: 2, To: 1, Term: 3, Index: 9, LogTerm: 9}, 10), out{Recs: []rec{state(3, 2)}, Msgs: []msg{voteTell(1, 2, 3, true)}})
	n.isAt(3, 2, 3, 0)
}

// P14.3: a node that is no member votes, and one that is none is voted for.
func TestVoteOfNoMember(t *testing.T) {
	n := open(t, 4, among(7), 10)
	outputs(t, n.hear(msg{Kind: api.MVote, From: 5, To: 4, Term: 1}, 10), out{Recs: []rec{state(1, 0), state(1, 5)}, Msgs: []msg{voteTell(4, 5, 1, true)}})
}

// P14.3: a candidate leads as soon as more than half of the members voted for it, each counted once; a no is no vote.
func TestVotesOfACandidate(t *testing.T) {
	for members := uint8(1); members < 32; members++ {
		if members&1 == 0 {
			continue
		}
		n := open(t, 1, among(members), 10)
		n.stands()
		size := len(n.m.members())
		for count, from := range n.m.others() {
			isLeader := 2*(count+1) > size
			n.leads(isLeader)
			if isLeader {
				break
			}
			outputs(t, n.hear(n.voteTell(from, false), 10), out{})
			if count > 0 {
				outputs(t, n.hear(n.voteTell(n.m.others()[0], true), 10), out{})
			}
			for outside := uint8(2); outside <= 5; outside++ {
				if members>>(outside-1)&1 == 0 {
					outputs(t, n.hear(n.voteTell(outside, true), 10), out{})
				}
			}
			want := out{}
			if 2*(count+2) > size {
				want.Recs = saved(noop(1, 1))
			}
			outputs(t, n.hear(n.voteTell(from, true), 10), want)
		}
		n.leads(true)
	}
}

// P14.3: votes are of one candidacy: neither those for an earlier term nor those that come to a follower or a leader count.
func TestVotesTooLate(t *testing.T) {
	n := open(t, 1, among(31), 10)
	n.stands()
	n.hear(n.voteTell(2, true), 10)
	n.stands()
	outputs(t, n.hear(n.voteTell(3, true), 10), out{})
	n.leads(false)
	n.hear(msg{Kind: api.MAppend, From: 5, To: 1, Term: 2}, 10)
	outputs(t, n.hear(n.voteTell(2, true), 10), out{})
	outputs(t, n.hear(n.voteTell(4, true), 10), out{})
	n.isAt(2, 1, 5, 0)
	n.stands()
	outputs(t, n.hear(n.voteTell(4, true), 10), out{})
	outputs(t, n.hear(n.voteTell(2, true), 10), out{Recs: saved(noop(1, 3))})
	outputs(t, n.hear(n.voteTell(3, true), 10), out{})
	n.hasTerms(3)
}

// P14.3: a node that hears MStandNow stands at once, with the timeout that is passed in, if it does not lead and is a member.
func TestStandNow(t *testing.T) {
	now := msg{Kind: api.MStandNow, From: 3, To: 1, Term: 3}
	n := inRole(t, "follower")
	outputs(t, n.hear(now, 17), out{Recs: []rec{state(4, 1)}, Msgs: asks(1, 4, 2, 2, 2, 3)})
	n.hasLeft(17)
	n = inRole(t, "candidate")
	n.hear(n.voteTell(5, true), 10)
	outputs(t, n.hear(now, 17), out{Recs: []rec{state(4, 1)}, Msgs: asks(1, 4, 2, 2, 2, 3)})
	n.hasLeft(17)
	n = inRole(t, "leader")
	outputs(t, n.hear(now, 17), out{})
	n.isAt(3, 1, 1, 0)
	n = open(t, 4, kept{Term: 3, Snap: api.Snap{Members: 7}}, 10)
	now.To = 4
	outputs(t, n.hear(now, 17), out{})
	n.hasLeft(10)
	now.Term = 5
	outputs(t, n.hear(now, 17), out{Recs: []rec{state(5, 0)}})
	n.isAt(5, 0, 0, 0)
}

// P14.3: the only member leads at once; one that led has lost its term, though it leads again.
func TestStandNowOfOne(t *testing.T) {
	n := open(t, 1, among(1), 10)
	outputs(t, n.hear(msg{Kind: api.MStandNow, From: 2, To: 1}, 10), out{Recs: append([]rec{state(1, 1)}, saved(noop(1, 1))...)})
	n.read(5)
	outputs(t, n.hear(msg{Kind: api.MStandNow, From: 2, To: 1, Term: 1}, 10), out{})
	outputs(t, n.hear(msg{Kind: api.MStandNow, From: 2, To: 1, Term: 2}, 10), out{Recs: append([]rec{state(2, 0), state(3, 1)}, saved(noop(2, 3))...), Lost: true})
	n.leads(true)
	n.isAt(3, 1, 1, 2)
	outputs(t, n.tick(10), out{})
}

// P14.3: each message that has no use in a role does nothing.
func TestHearOfNoUse(t *testing.T) {
	for role, kinds := range map[string][]uint8{
		"follower":  {api.MVoteTell, api.MAppTell, api.MSecTell},
		"candidate": {api.MAppTell, api.MSecTell},
		"leader":    {api.MVoteTell, api.MAppend, api.MSection, api.MStandNow},
	} {
		for _, kind := range kinds {
			n := inRole(t, role)
			left, leader := n.r.Left(), n.r.Leader()
			outputs(t, n.hear(msg{Kind: kind, From: 2, To: 1, Term: 3, Index: 2, LogTerm: 2, Commit: 2, Round: 4, OK: true, Members: 7, Entries: noops(3, 3)}, 19), out{})
			n.isAt(3, n.r.Vote(), leader, 0)
			n.hasLeft(left)
			n.leads(role == "leader")
		}
	}
}
