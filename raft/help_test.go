package raft_test

import (
	"math"
	"reflect"
	"slices"
	"strconv"
	"testing"

	"wapentake/api"
	"wapentake/raft"
	"wapentake/reads"
	"wapentake/stable"
)

// most is how many entries are asked for where all are.
const most = math.MaxInt

// greatest is the greatest index, term and round.
const greatest uint64 = math.MaxUint64

type (
	msg   = api.Msg
	out   = raft.Out
	entry = api.Entry
	rec   = api.Rec
	kept  = stable.Kept
	read  = reads.Read
)

func noop(index, term uint64) entry {
	return entry{Index: index, Term: term, Kind: api.ENoop}
}

// noops are entries of these terms, from an index on.
func noops(index uint64, terms ...uint64) []entry {
	var entries []entry
	for _, term := range terms {
		entries = append(entries, noop(index, term))
		index++
	}
	return entries
}

// membership is an entry that changes the members.
func membership(index, term uint64, members uint8) entry {
	return entry{Index: index, Term: term, Kind: api.EConf, Body: string([]byte{members})}
}

// snapAt is a snapshot with sections that tell whose they are.
func snapAt(index, term uint64, members uint8) api.Snap {
	snap := api.Snap{Index: index, Term: term, Members: members}
	for i := range snap.Sections {
		snap.Sections[i] = "section " + strconv.Itoa(i) + " at " + strconv.FormatUint(index, 10)
	}
	return snap
}

// among is the durable state of a new node among these members.
func among(members uint8) kept {
	return kept{Snap: api.Snap{Members: members}}
}

func state(term uint64, vote uint8) rec {
	return rec{Kind: api.RecState, Term: term, Vote: vote}
}

// saved are records of entries.
func saved(entries ...entry) []rec {
	var recs []rec
	for _, e := range entries {
		recs = append(recs, rec{Kind: api.RecEntry, Entry: e})
	}
	return recs
}

func same(a, b msg) bool {
	if !slices.Equal(a.Entries, b.Entries) {
		return false
	}
	a.Entries, b.Entries = nil, nil
	return reflect.DeepEqual(a, b)
}

func sameOut(a, b out) bool {
	return slices.Equal(a.Recs, b.Recs) && a.Install == b.Install && a.Snap == b.Snap && slices.EqualFunc(a.Msgs, b.Msgs, same) && a.Lost == b.Lost && slices.Equal(a.Reads, b.Reads)
}

// node is a node that is called together with its model, and the durable state that its records yield.
type node struct {
	t     *testing.T
	r     *raft.Raft
	m     *model
	kept  kept
	votes map[uint64]uint8 // whom it voted for in each term
	told  committed
	// spoils is whether all memory that the node was given, and all that it returned, is changed after each call.
	spoils bool
}

// committed is what of a node must not decrease, or be lost: the commit index, and the terms of what is committed.
type committed struct {
	term, commit uint64
	terms        map[uint64]uint64
}

// open makes a node, which must succeed.
func open(t *testing.T, id uint8, k kept, wait int) *node {
	t.Helper()
	r, e := raft.New(id, k, wait)
	if r == nil || e != api.OK {
		t.Fatalf("New(%d, %v, %d): %v, %d", id, k, wait, r, e)
	}
	n := &node{t: t, r: r, m: newModel(id, k, wait), kept: k, votes: map[uint64]uint8{k.Term: k.Vote}}
	n.told = committed{k.Term, k.Snap.Index, map[uint64]uint64{}}
	n.isAsModel("New")
	return n
}

// is demands that what a step output is as it should be.
func (n *node) is(what string, got, want out) {
	n.t.Helper()
	if !sameOut(got, want) {
		n.t.Fatalf("node %d: %s:\n got %+v\nwant %+v", n.m.id, what, got, want)
	}
}

// isAsModel demands that all parts of the node's state are as the model's.
func (n *node) isAsModel(after string) {
	n.t.Helper()
	r, m := n.r, n.m
	fail := func(what string, got, want any) {
		n.t.Helper()
		n.t.Fatalf("node %d after %s: %s: %v, not %v", m.id, after, what, got, want)
	}
	if r.Term() != m.term || r.Vote() != m.vote {
		fail("Term and Vote", []any{r.Term(), r.Vote()}, []any{m.term, m.vote})
	}
	if r.Leads() != (m.role == "leader") || r.Leader() != m.leader {
		fail("Leads and Leader", []any{r.Leads(), r.Leader()}, []any{m.role, m.leader})
	}
	if r.Commit() != m.commit {
		fail("Commit", r.Commit(), m.commit)
	}
	if r.Left() != m.left() {
		fail("Left", r.Left(), m.left())
	}
	for _, node := range []uint8{0, 1, 2, 3, 4, 5, 6, 255} {
		if r.Match(node) != m.matchOf(node) {
			fail("Match of "+strconv.Itoa(int(node)), r.Match(node), m.matchOf(node))
		}
	}
	n.hasLogOfModel(fail)
}

func (n *node) hasLogOfModel(fail func(what string, got, want any)) {
	n.t.Helper()
	r, m := n.r, n.m
	index, term := r.Last()
	lastIndex, lastTerm := m.last()
	if index != lastIndex || term != lastTerm {
		fail("Last", []any{index, term}, []any{lastIndex, lastTerm})
	}
	if got := r.Entries(0, most); !slices.Equal(got, m.entries) {
		fail("Entries", got, m.entries)
	}
	if r.Snap() != m.snap {
		fail("Snap", r.Snap(), m.snap)
	}
	newest, _ := m.membersAt(greatest)
	if r.Members() != newest {
		fail("Members", r.Members(), newest)
	}
	for _, at := range []uint64{0, m.snap.Index, m.commit, lastIndex - 1, lastIndex, greatest} {
		if want, _ := m.membersAt(at); r.MembersAt(at) != want {
			fail("MembersAt "+strconv.FormatUint(at, 10), r.MembersAt(at), want)
		}
	}
}

// ends demands what P14.7 says of each step.
func (n *node) ends(what string, o out) {
	n.t.Helper()
	var e api.Errno
	if n.kept, e = stable.After(n.kept, o.Recs...); e != api.OK {
		n.t.Fatalf("node %d after %s: the records %v do not suit", n.m.id, what, o.Recs)
	}
	if o.Install {
		if n.kept, e = stable.Cut(n.kept, o.Snap); e != api.OK {
			n.t.Fatalf("node %d after %s: the snapshot %v does not suit", n.m.id, what, o.Snap)
		}
	}
	n.keepsStates(what, o.Recs)
	n.isKept(what)
	n.keepsPromises(what)
}

// keepsStates demands that records of the state are ahead of those of entries, and that no term has two votes.
func (n *node) keepsStates(what string, recs []rec) {
	n.t.Helper()
	entries := false
	for _, r := range recs {
		if r.Kind == api.RecEntry {
			entries = true
			continue
		}
		if entries {
			n.t.Fatalf("node %d after %s: a state behind entries: %v", n.m.id, what, recs)
		}
		if was := n.votes[r.Term]; was != 0 && was != r.Vote {
			n.t.Fatalf("node %d after %s: in the term %d a vote for %d and one for %d", n.m.id, what, r.Term, was, r.Vote)
		}
		n.votes[r.Term] = r.Vote
	}
}

// isKept demands that the durable state is the node's.
func (n *node) isKept(what string) {
	n.t.Helper()
	if n.kept.Term != n.r.Term() || n.kept.Vote != n.r.Vote() || n.kept.Snap != n.r.Snap() || !slices.Equal(n.kept.Entries, n.r.Entries(0, most)) {
		n.t.Fatalf("node %d after %s: the durable state %v", n.m.id, what, n.kept)
	}
}

// keepsPromises demands that the term and the commit index did not decrease, and that what was committed still is there, or is truncated.
func (n *node) keepsPromises(what string) {
	n.t.Helper()
	term, commit := n.r.Term(), n.r.Commit()
	if term < n.told.term || commit < n.told.commit {
		n.t.Fatalf("node %d after %s: term %d, commit %d; they were %v", n.m.id, what, term, commit, n.told)
	}
	n.told.term, n.told.commit = term, commit
	first := n.r.Snap().Index
	count := uint64(0)
	for _, e := range n.r.Entries(0, most) {
		if e.Index > commit {
			break
		}
		count++
		if was, ok := n.told.terms[e.Index]; ok && was != e.Term {
			n.t.Fatalf("node %d after %s: at %d the term %d was committed, and now it is %d", n.m.id, what, e.Index, was, e.Term)
		}
		n.told.terms[e.Index] = e.Term
	}
	if first+count != commit {
		n.t.Fatalf("node %d after %s: of the entries from %d to %d only %d are there", n.m.id, what, first+1, commit, count)
	}
}

// done ends a call of both: what was output must be the same.
func (n *node) done(what string, got, want out) out {
	n.t.Helper()
	n.is(what, got, want)
	if n.spoils {
		n.spoilAll(got)
		got = want
	}
	n.isAsModel(what)
	n.ends(what, got)
	return got
}

func (n *node) tick(wait int) out {
	n.t.Helper()
	return n.done("Tick", n.r.Tick(wait), n.m.tick(wait))
}

func (n *node) hear(x msg, wait int) out {
	n.t.Helper()
	if n.spoils {
		return n.done("Hear", n.hearGiven(x, wait), n.m.hear(x, wait))
	}
	return n.done("Hear", n.r.Hear(x, wait), n.m.hear(x, wait))
}

func (n *node) propose(e entry) (entry, out, bool) {
	n.t.Helper()
	body := lying(e.Body)
	got, o, ok := n.r.Propose(e.Kind, e.Slot, e.Token, body)
	want, wantOut, wantOK := n.m.propose(entry{Kind: e.Kind, Slot: e.Slot, Token: e.Token, Body: e.Body})
	if got != want || ok != wantOK {
		n.t.Fatalf("node %d: Propose: %v, %v, not %v, %v", n.m.id, got, ok, want, wantOK)
	}
	if n.spoils {
		n.areApart(append(stringsOf(o), got.Body, body)...)
		spoil(got.Body, body)
		got = want
	}
	return got, n.done("Propose", o, wantOut), ok
}

func (n *node) change(members uint8) (entry, out, uint8) {
	n.t.Helper()
	got, o, code := n.r.Change(members)
	want, wantOut, wantCode := n.m.change(members)
	if got != want || code != wantCode {
		n.t.Fatalf("node %d: Change(%d): %v, %d, not %v, %d", n.m.id, members, got, code, want, wantCode)
	}
	if n.spoils {
		n.areApart(append(stringsOf(o), got.Body)...)
		spoil(got.Body)
		got = want
	}
	return got, n.done("Change", o, wantOut), code
}

func (n *node) lead(to uint8) (out, bool) {
	n.t.Helper()
	o, ok := n.r.Lead(to)
	want, wantOK := n.m.leadTo(to)
	if ok != wantOK {
		n.t.Fatalf("node %d: Lead(%d): %v, not %v", n.m.id, to, ok, wantOK)
	}
	return n.done("Lead", o, want), ok
}

func (n *node) read(id uint64) bool {
	n.t.Helper()
	got, want := n.r.Read(id), n.m.read(id)
	if got != want {
		n.t.Fatalf("node %d: Read(%d): %v, not %v", n.m.id, id, got, want)
	}
	n.done("Read", out{}, out{})
	return got
}

func (n *node) cut(snap api.Snap) api.Errno {
	n.t.Helper()
	given := lyingSnap(snap)
	got, want := n.r.Cut(given), n.m.cut(snap)
	if n.spoils {
		spoil(given.Sections[:]...)
	}
	if got != want {
		n.t.Fatalf("node %d: Cut(%v): %d, not %d", n.m.id, snap, got, want)
	}
	if got == api.OK {
		var e api.Errno
		if n.kept, e = stable.Cut(n.kept, snap); e != api.OK {
			n.t.Fatalf("node %d: Cut(%v) does not suit", n.m.id, snap)
		}
	}
	n.done("Cut", out{}, out{})
	return got
}

// ticks lets so many ticks pass, and returns what the last one output.
func (n *node) ticks(count, wait int) out {
	n.t.Helper()
	var o out
	for range count {
		o = n.tick(wait)
	}
	return o
}

// stands lets ticks pass till the node stands for election, or leads at once.
func (n *node) stands() out {
	n.t.Helper()
	return n.ticks(max(n.r.Left(), 1), 10)
}

// wins lets the node stand and have the votes of all members.
func (n *node) wins() out {
	n.t.Helper()
	o := n.stands()
	for _, from := range n.m.others() {
		if !n.r.Leads() {
			o = n.hear(n.voteTell(from, true), 10)
		}
	}
	if !n.r.Leads() {
		n.t.Fatalf("node %d does not lead", n.m.id)
	}
	return o
}

// voteTell is a vote of the node's term for the node, or none.
func (n *node) voteTell(from uint8, ok bool) msg {
	return msg{Kind: api.MVoteTell, From: from, To: n.m.id, Term: n.r.Term(), OK: ok}
}

// appTell is an answer of the node's term to entries.
func (n *node) appTell(from uint8, ok bool, index, round uint64) msg {
	return msg{Kind: api.MAppTell, From: from, To: n.m.id, Term: n.r.Term(), OK: ok, Index: index, Round: round}
}

// secTell is an answer of the node's term to a section.
func (n *node) secTell(from uint8, index uint64, section uint8, round uint64) msg {
	return msg{Kind: api.MSecTell, From: from, To: n.m.id, Term: n.r.Term(), Index: index, Section: section, Round: round}
}

// agrees lets another node answer that it has the whole log.
func (n *node) agrees(from uint8, round uint64) out {
	n.t.Helper()
	index, _ := n.r.Last()
	return n.hear(n.appTell(from, true, index, round), 10)
}

// leaderOf is a node 1 that leads these members in the term 1, whose own term is committed: its log has the one entry ENoop 1 1.
func leaderOf(t *testing.T, members uint8) *node {
	t.Helper()
	n := open(t, 1, among(members), 10)
	n.wins()
	for _, from := range n.m.others() {
		n.agrees(from, 0)
	}
	if n.r.Commit() != 1 {
		t.Fatalf("its own term is not committed")
	}
	return n
}

// outputs demands that a step output exactly this.
func outputs(t *testing.T, got, want out) {
	t.Helper()
	if !sameOut(got, want) {
		t.Fatalf("\n got %+v\nwant %+v", got, want)
	}
}

// sends is an output of messages alone.
func sends(list ...msg) out {
	return out{Msgs: list}
}

// voteTell is a node's answer to an MVote.
func voteTell(from, to uint8, term uint64, ok bool) msg {
	return msg{Kind: api.MVoteTell, From: from, To: to, Term: term, OK: ok}
}

// appTell is a node's answer to an MAppend.
func appTell(from, to uint8, term uint64, ok bool, index, round uint64) msg {
	return msg{Kind: api.MAppTell, From: from, To: to, Term: term, OK: ok, Index: index, Round: round}
}

// isAt demands the node's term, vote, leader and commit index.
func (n *node) isAt(term uint64, vote, leader uint8, commit uint64) {
	n.t.Helper()
	r := n.r
	if r.Term() != term || r.Vote() != vote || r.Leader() != leader || r.Commit() != commit {
		n.t.Fatalf("term %d, vote %d, leader %d, commit %d, not %d, %d, %d, %d", r.Term(), r.Vote(), r.Leader(), r.Commit(), term, vote, leader, commit)
	}
}

// leads demands whether the node leads.
func (n *node) leads(want bool) {
	n.t.Helper()
	if n.r.Leads() != want {
		n.t.Fatalf("Leads: %v", n.r.Leads())
	}
}

// hasLeft demands how many ticks remain.
func (n *node) hasLeft(want int) {
	n.t.Helper()
	if got := n.r.Left(); got != want {
		n.t.Fatalf("Left: %d, not %d", got, want)
	}
}

// hasTerms demands the terms of the log's entries.
func (n *node) hasTerms(terms ...uint64) {
	n.t.Helper()
	var got []uint64
	for _, e := range n.r.Entries(0, most) {
		got = append(got, e.Term)
	}
	if !slices.Equal(got, terms) {
		n.t.Fatalf("terms of the entries: %v, not %v", got, terms)
	}
}
