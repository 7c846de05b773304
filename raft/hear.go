package raft

import (
	"strings"

	"wapentake/api"
)

// arrival is a snapshot of which some sections have arrived.
type arrival struct {
	snap api.Snap
	has  [api.Queues]bool
}

// isOf reports whether the section that m has is one of this snapshot.
func (a *arrival) isOf(m api.Msg) bool {
	return a.snap.Index == m.Index && a.snap.Term == m.LogTerm && a.snap.Members == m.Members
}

// store stores the section that m has.
func (a *arrival) store(m api.Msg) {
	if int(m.Section) < len(a.has) {
		a.has[m.Section] = true
		a.snap.Sections[m.Section] = strings.Clone(m.Body)
	}
}

// lacks returns the first section that is missing; it is not ok if none is.
func (a *arrival) lacks() (section uint8, ok bool) {
	for i, has := range a.has {
		if !has {
			return uint8(i), true
		}
	}
	return 0, false
}

// Hear receives a message.
func (r *Raft) Hear(m api.Msg, wait int) Out {
	if !r.isMade() || !r.concerns(m) {
		return Out{}
	}
	return r.step(func(o *Out) {
		if m.Term < r.term {
			r.refuse(m, o)
			return
		}
		if m.Term > r.term {
			r.enter(m.Term, o)
		}
		r.hear(m, wait, o)
	})
}

// concerns reports whether m is a message from another node to this one.
func (r *Raft) concerns(m api.Msg) bool {
	return m.To == r.id && m.From != r.id && isNode(m.From) && m.Kind >= api.MVote && m.Kind <= api.MStandNow
}

// refuse answers a message of a term that is over.
func (r *Raft) refuse(m api.Msg, o *Out) {
	switch m.Kind {
	case api.MVote:
		o.send(r.to(m.From, api.MVoteTell))
	case api.MAppend, api.MSection:
		// Its Round is not told: it was one of another leader.
		o.send(r.to(m.From, api.MAppTell))
	}
}

// hear receives a message of the node's term.
func (r *Raft) hear(m api.Msg, wait int, o *Out) {
	if r.role == leader {
		r.hearAsLeader(m, o)
		return
	}
	switch m.Kind {
	case api.MVote:
		r.hearVote(m, wait, o)
	case api.MVoteTell:
		if r.role == candidate && m.OK {
			r.voted(m.From, o)
		}
	case api.MAppend:
		r.follow(m.From)
		r.restart(wait)
		r.hearAppend(m, o)
	case api.MSection:
		r.follow(m.From)
		r.restart(wait)
		r.hearSection(m, o)
	case api.MStandNow:
		if r.isMember() {
			r.stand(wait, o)
		}
	}
}

// hearAsLeader receives a message of the term in which the node leads.
func (r *Raft) hearAsLeader(m api.Msg, o *Out) {
	switch m.Kind {
	case api.MVote:
		o.send(r.to(m.From, api.MVoteTell))
	case api.MAppTell:
		r.hearAppTell(m, o)
	case api.MSecTell:
		r.hearSecTell(m, o)
	}
}

// hearVote lets a node that does not lead vote for another one, or not.
func (r *Raft) hearVote(m api.Msg, wait int, o *Out) {
	answer := r.to(m.From, api.MVoteTell)
	answer.OK = (r.vote == 0 || r.vote == m.From) && r.log.AsNew(m.Index, m.LogTerm)
	if answer.OK {
		if r.vote != m.From {
			r.vote = m.From
			r.saveState(o)
		}
		r.restart(wait)
	}
	o.send(answer)
}

// hearAppend receives the leader's entries.
func (r *Raft) hearAppend(m api.Msg, o *Out) {
	answer := r.to(m.From, api.MAppTell)
	answer.Round = m.Round
	answer.OK, answer.Index = r.put(m, o)
	if answer.OK {
		r.raise(min(m.Commit, answer.Index))
	}
	o.send(answer)
}

// put puts the leader's entries into the log, and outputs those that it did not have. It returns whether the log is the leader's now, up to which index; or else up to which index it may be.
func (r *Raft) put(m api.Msg, o *Out) (ok bool, index uint64) {
	if !r.contradicts(m.Entries) {
		ok, match, fresh := r.log.Put(m.Index, m.LogTerm, m.Entries)
		if ok {
			o.saveEntries(fresh...)
			return true, match
		}
		if m.Index < r.firstIndex() {
			// What was cut off was committed, and so every leader has it.
			return true, r.firstIndex()
		}
	}
	return false, min(r.lastIndex(), max(m.Index, 1)-1)
}

// contradicts reports whether some of entries would take the place of what is committed.
func (r *Raft) contradicts(entries []api.Entry) bool {
	for _, e := range entries {
		term, ok := r.log.Term(e.Index)
		if ok && term != e.Term && e.Index <= r.commit {
			return true
		}
	}
	return false
}

// hearSection receives a section of the leader's snapshot.
func (r *Raft) hearSection(m api.Msg, o *Out) {
	answer := r.to(m.From, api.MAppTell)
	answer.Index, answer.Round = m.Index, m.Round
	if m.Index > r.commit {
		if !r.coming.isOf(m) {
			r.coming = arrival{snap: api.Snap{Index: m.Index, Term: m.LogTerm, Members: m.Members}}
		}
		r.coming.store(m)
		if section, lacks := r.coming.lacks(); lacks {
			answer.Kind, answer.Section = api.MSecTell, section
			o.send(answer)
			return
		}
		r.install(r.coming.snap, o)
	}
	answer.OK = true
	o.send(answer)
}

// install takes over a snapshot whose index is above the commit index.
func (r *Raft) install(snap api.Snap, o *Out) {
	o.Install, o.Snap = true, ownSnap(snap)
	r.snap = snap
	r.log.Reset(snap.Index, snap.Term, snap.Members)
	r.raise(snap.Index)
}

// hearAppTell receives a node's answer to entries, or to a snapshot's last section.
func (r *Raft) hearAppTell(m api.Msg, o *Out) {
	p := r.lead.peers[m.From]
	p.Peer = p.Told(m.OK, min(m.Index, r.lastIndex()), m.Round)
	if p.Snap == 0 {
		p.sent = api.Snap{}
	}
	r.hearAnswer(m.From, p, o)
	if r.lead.target == m.From {
		r.handOver(o)
	}
}

// hearSecTell receives a node's answer to a section.
func (r *Raft) hearSecTell(m api.Msg, o *Out) {
	p := r.lead.peers[m.From]
	p.Peer = p.SectionTold(m.Index, m.Section)
	p.Round = max(p.Round, m.Round)
	r.hearAnswer(m.From, p, o)
}

// hearAnswer does what follows from a node's answer: p is what is known of it now. If the leader resigns, it has no reads to tell.
func (r *Raft) hearAnswer(node uint8, p peer, o *Out) {
	r.lead.peers[node] = p
	r.advance()
	r.tellReads(o)
}

// handOver tells the transfer target to stand for election, if it has the whole log.
func (r *Raft) handOver(o *Out) {
	to := r.lead.target
	if r.lead.peers[to].Match == r.lastIndex() {
		o.send(r.to(to, api.MStandNow))
		r.lead.target = 0
	}
}
