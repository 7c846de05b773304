package raft

import (
	"strings"

	"wapentake/api"
	"wapentake/conf"
	"wapentake/progress"
)

// step does a step, and returns what it outputs.
func (r *Raft) step(do func(o *Out)) Out {
	led, term := r.Leads(), r.term
	var o Out
	do(&o)
	// Who loses a term and wins another one in the same step did not keep what it led.
	o.Lost = led && !(r.Leads() && r.term == term)
	return o
}

// restart restarts the timer with this timeout.
func (r *Raft) restart(wait int) {
	r.elapsed, r.wait = 0, min(max(wait, api.LeastWait), api.MostWait)
}

// isMember reports whether the node is one of the newest members.
func (r *Raft) isMember() bool {
	return conf.Has(r.Members(), r.id)
}

// others returns the newest members except the node.
func (r *Raft) others() []uint8 {
	return conf.List(r.Members() &^ conf.Of(r.id))
}

// lastIndex returns the index of the log's last position.
func (r *Raft) lastIndex() uint64 {
	index, _ := r.log.Last()
	return index
}

// firstIndex returns the index of the log's beginning.
func (r *Raft) firstIndex() uint64 {
	index, _ := r.log.First()
	return index
}

// to returns a message to a node.
func (r *Raft) to(node, kind uint8) api.Msg {
	return api.Msg{Kind: kind, From: r.id, To: node, Term: r.term}
}

// send outputs a message.
func (o *Out) send(m api.Msg) {
	o.Msgs = append(o.Msgs, m)
}

// saveState outputs a record of the term and the vote.
func (r *Raft) saveState(o *Out) {
	o.Recs = append(o.Recs, api.Rec{Kind: api.RecState, Term: r.term, Vote: r.vote})
}

// saveEntries outputs records of entries, whose memory goes with them.
func (o *Out) saveEntries(entries ...api.Entry) {
	for _, e := range entries {
		o.Recs = append(o.Recs, api.Rec{Kind: api.RecEntry, Entry: e})
	}
}

// follow makes the node a follower, to which this leader is known (0: none). What it had in another role is gone.
func (r *Raft) follow(known uint8) {
	r.role, r.known = follower, known
	r.votes, r.lead = 0, leadership{}
}

// enter lets the node enter a term.
func (r *Raft) enter(term uint64, o *Out) {
	r.term, r.vote = term, 0
	r.follow(0)
	r.saveState(o)
}

// stand lets the node stand for election.
func (r *Raft) stand(wait int, o *Out) {
	r.follow(0)
	r.term, r.vote, r.role = r.term+1, r.id, candidate
	r.restart(wait)
	r.saveState(o)
	for _, node := range r.others() {
		m := r.to(node, api.MVote)
		m.Index, m.LogTerm = r.log.Last()
		o.send(m)
	}
	r.voted(r.id, o)
}

// voted counts the vote of a node for the candidate.
func (r *Raft) voted(node uint8, o *Out) {
	r.votes |= conf.Of(node)
	if conf.Won(r.Members(), r.votes) {
		r.win(o)
	}
}

// win makes the candidate a leader.
func (r *Raft) win(o *Out) {
	r.role, r.known, r.votes = leader, r.id, 0
	r.lead = leadership{peers: map[uint8]peer{}}
	for node := uint8(1); node <= api.MaxNodes; node++ {
		if node != r.id {
			r.lead.peers[node] = peer{Peer: progress.New(r.lastIndex())}
		}
	}
	r.add(api.Entry{Kind: api.ENoop}, o)
}

// add appends an entry of the leader's term to its log, commits, and returns the entry.
func (r *Raft) add(e api.Entry, o *Out) api.Entry {
	e.Term = r.term
	e = r.log.Add(e)
	saved := e
	saved.Body = strings.Clone(e.Body)
	o.saveEntries(saved)
	r.advance()
	return e
}

// reached returns the greatest number that a majority of the members has reached: the node itself has reached own, and another one what mark tells of its peer.
func (r *Raft) reached(own uint64, mark func(p peer) uint64) uint64 {
	var marks [api.MaxNodes + 1]uint64
	for node, p := range r.lead.peers {
		marks[node] = mark(p)
	}
	marks[r.id] = own
	return conf.Level(r.Members(), marks)
}

// advance lets the leader commit, and resign if it is committed that it is not a member.
func (r *Raft) advance() {
	level := r.reached(r.lastIndex(), func(p peer) uint64 { return p.Match })
	// What a majority has of an earlier term may yet give way to another leader's entries.
	if level > r.commit && r.isOwn(level) {
		r.raise(level)
	}
	if r.isSettled() && !r.isMember() {
		r.follow(0)
	}
}

// isOwn reports whether the log has the node's term at this index.
func (r *Raft) isOwn(index uint64) bool {
	term, ok := r.log.Term(index)
	return ok && term == r.term
}

// isSettled reports whether the newest members are committed.
func (r *Raft) isSettled() bool {
	_, since := r.log.Members()
	return since <= r.commit
}

// raise lets the commit index become this one, if it is greater.
func (r *Raft) raise(index uint64) {
	r.commit = max(r.commit, index)
	if r.coming.snap.Index <= r.commit {
		// No section of it is taken any more.
		r.coming = arrival{}
	}
}

// tellReads outputs the reads whose round a majority has acknowledged.
func (r *Raft) tellReads(o *Out) {
	round := r.reached(r.lead.round, func(p peer) uint64 { return p.Round })
	o.Reads = append(o.Reads, r.lead.reads.Told(round)...)
}

// Tick lets the time of a tick pass.
func (r *Raft) Tick(wait int) Out {
	if !r.isMade() {
		return Out{}
	}
	return r.step(func(o *Out) {
		if r.role == leader {
			r.broadcast(o)
			return
		}
		// It stays at the timeout of a node that must not stand.
		r.elapsed = min(r.elapsed+1, r.wait)
		if r.elapsed == r.wait && r.isMember() {
			r.stand(wait, o)
		}
	})
}

// broadcast lets the leader begin a round.
func (r *Raft) broadcast(o *Out) {
	if r.isOwn(r.commit) {
		r.lead.reads.Begin(r.commit, r.lead.round+1)
	}
	r.lead.round++
	for _, node := range r.others() {
		o.send(r.news(node))
	}
	r.tellReads(o)
}

// news returns what the leader sends a node in each round: a section of a snapshot, or entries.
func (r *Raft) news(node uint8) api.Msg {
	p := r.lead.peers[node]
	if p.Snap == 0 && p.Needs(r.firstIndex()) {
		p.Peer, p.sent = p.Send(r.snap.Index), r.snap
		r.lead.peers[node] = p
	}
	var m api.Msg
	if p.Snap != 0 {
		m = r.section(node, p)
	} else {
		m = r.entries(node, p)
	}
	m.Commit, m.Round = r.commit, r.lead.round
	return m
}

// section returns the section that is due of the snapshot that is being sent to a node.
func (r *Raft) section(node uint8, p peer) api.Msg {
	m := r.to(node, api.MSection)
	m.Index, m.LogTerm, m.Members = p.sent.Index, p.sent.Term, p.sent.Members
	m.Section, m.Body = p.Section, strings.Clone(p.sent.Sections[p.Section])
	return m
}

// entries returns the entries that are sent to a node next.
func (r *Raft) entries(node uint8, p peer) api.Msg {
	m := r.to(node, api.MAppend)
	m.Index = p.Next - 1
	m.LogTerm, _ = r.log.Term(m.Index)
	m.Entries = r.log.From(p.Next, api.MaxAppend)
	return m
}
