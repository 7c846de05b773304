package raft_test

import (
	"testing"

	"wapentake/api"
	"wapentake/raft"
)

// P14.6: the methods of a nil node, and of one that New did not create, do nothing.
func TestNoNode(t *testing.T) {
	for _, r := range []*raft.Raft{nil, new(raft.Raft), {}} {
		for range 2 {
			isNoNode(t, r)
		}
	}
}

func isNoNode(t *testing.T, r *raft.Raft) {
	t.Helper()
	for range 30 {
		outputs(t, r.Tick(10), out{})
	}
	for kind := range uint8(9) {
		for _, to := range []uint8{0, 1} {
			outputs(t, r.Hear(msg{Kind: kind, From: 2, To: to, Term: 1, Index: 1, OK: true, Members: 7, Entries: noops(2, 1)}, 10), out{})
		}
	}
	if e, o, ok := r.Propose(api.ETick, 0, api.Token{}, ""); e != (entry{}) || !sameOut(o, out{}) || ok {
		t.Errorf("Propose: %v, %v, %v", e, o, ok)
	}
	for _, members := range []uint8{0, 1, 7, 255} {
		if e, o, code := r.Change(members); e != (entry{}) || !sameOut(o, out{}) || code != api.RConflict {
			t.Errorf("Change: %v, %v, %d", e, o, code)
		}
		if o, ok := r.Lead(members); !sameOut(o, out{}) || ok {
			t.Errorf("Lead: %v, %v", o, ok)
		}
		if r.Match(members) != 0 || r.MembersAt(uint64(members)) != 0 {
			t.Errorf("Match, MembersAt: %d, %d", r.Match(members), r.MembersAt(uint64(members)))
		}
	}
	for _, snap := range []api.Snap{{}, {Index: 1}, snapAt(1, 1, 7)} {
		if e := r.Cut(snap); e != api.ErrArg {
			t.Errorf("Cut: %d", e)
		}
	}
	index, term := r.Last()
	if r.Read(1) || r.Term() != 0 || r.Vote() != 0 || r.Leads() || r.Leader() != 0 || r.Commit() != 0 || r.Members() != 0 || r.Left() != 0 || len(r.Entries(0, most)) != 0 || index != 0 || term != 0 || r.Snap() != (api.Snap{}) {
		t.Errorf("it has something")
	}
}
