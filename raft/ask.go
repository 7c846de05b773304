package raft

import (
	"wapentake/api"
	"wapentake/conf"
)

// Propose appends an entry, if the node leads.
func (r *Raft) Propose(kind, slot uint8, token api.Token, body string) (api.Entry, Out, bool) {
	if !r.Leads() {
		return api.Entry{}, Out{}, false
	}
	e, o := r.propose(api.Entry{Kind: kind, Slot: slot, Token: token, Body: body})
	return e, o, true
}

// propose is the step in which a leader appends an entry.
func (r *Raft) propose(e api.Entry) (api.Entry, Out) {
	o := r.step(func(o *Out) { e = r.add(e, o) })
	return e, o
}

// Change appends an entry that changes the members, by one node at a time.
func (r *Raft) Change(members uint8) (api.Entry, Out, uint8) {
	if !r.Leads() || !r.isOwn(r.commit) || !r.isSettled() {
		return api.Entry{}, Out{}, api.RConflict
	}
	if !r.mayBecome(members) {
		return api.Entry{}, Out{}, api.RWrong
	}
	e, o := r.propose(api.Entry{Kind: api.EConf, Body: string([]byte{members})})
	return e, o, api.ROK
}

// mayBecome reports whether these are members that may come after the newest ones: a majority of one then has a node in common with any majority of the other.
func (r *Raft) mayBecome(members uint8) bool {
	newest := r.Members()
	return members != 0 && members != newest && members < 1<<api.MaxNodes && conf.Near(members, newest)
}

// Lead lets the leader transfer leadership to another member, now or as soon as that has the whole log.
func (r *Raft) Lead(to uint8) (Out, bool) {
	if !r.Leads() || to == r.id || !conf.Has(r.Members(), to) {
		return Out{}, false
	}
	return r.step(func(o *Out) {
		r.lead.target = to
		r.handOver(o)
	}), true
}

// Read lets a leader take on a read, which waits for the next round.
func (r *Raft) Read(id uint64) bool {
	return r.Leads() && r.lead.reads.Ask(id)
}

// Cut cuts the log at the end of a snapshot of what is committed.
func (r *Raft) Cut(snap api.Snap) api.Errno {
	if !r.isMade() {
		return api.ErrArg
	}
	if snap.Index <= r.firstIndex() {
		return api.ErrOld
	}
	if snap.Index > r.commit {
		return api.ErrNone
	}
	term, _ := r.log.Term(snap.Index)
	if snap.Term != term || snap.Members != r.log.MembersAt(snap.Index) {
		return api.ErrArg
	}
	r.snap = ownSnap(snap)
	return r.log.Cut(snap.Index)
}
