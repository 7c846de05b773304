package raft_test

import (
	"math/rand"
	"runtime"
	"slices"
	"testing"
	"unsafe"

	"wapentake/api"
	"wapentake/raft"
)

// lying is s in bytes of its own, which spoil may change.
func lying(s string) string {
	return string(append([]byte(nil), s...))
}

func lyingSnap(snap api.Snap) api.Snap {
	for i, section := range snap.Sections {
		snap.Sections[i] = lying(section)
	}
	return snap
}

// lyingEntries are entries in memory of their own, with spare capacity that is filled.
func lyingEntries(entries []entry) []entry {
	given := make([]entry, len(entries), len(entries)+3)
	for i, e := range entries {
		e.Body = lying(e.Body)
		given[i] = e
	}
	for i := range 3 {
		given[:len(given)+3][len(given)+i] = noop(99, 99)
	}
	return given
}

// spoil changes the bytes of these strings. Those of one byte may be the program's own.
func spoil(list ...string) {
	for _, s := range list {
		if len(s) < 2 {
			continue
		}
		bytes := unsafe.Slice(unsafe.StringData(s), len(s))
		for i := range bytes {
			bytes[i] ^= 0xff
		}
	}
}

func spoilEntries(entries []entry) {
	for _, e := range entries {
		spoil(e.Body)
	}
	for i := range entries[:cap(entries)] {
		entries[:cap(entries)][i] = noop(77, 77)
	}
}

// stringsOf are all the strings that an output has.
func stringsOf(o out) []string {
	list := slices.Clone(o.Snap.Sections[:])
	for _, r := range o.Recs {
		list = append(list, r.Entry.Body)
	}
	for _, x := range o.Msgs {
		list = append(list, x.Body)
		for _, e := range x.Entries {
			list = append(list, e.Body)
		}
	}
	return list
}

// areApart demands that no two of these strings share bytes.
func (n *node) areApart(list ...string) {
	n.t.Helper()
	begins := map[*byte]bool{}
	for _, s := range list {
		if len(s) < 2 {
			continue
		}
		if begins[unsafe.StringData(s)] {
			n.t.Fatalf("node %d: %q is returned twice in the same memory", n.m.id, s)
		}
		begins[unsafe.StringData(s)] = true
	}
}

// spoilAll changes all memory of an output, and of what else the node returns.
func (n *node) spoilAll(o out) {
	n.t.Helper()
	n.areApart(stringsOf(o)...)
	spoil(stringsOf(o)...)
	for i := range o.Msgs {
		for _, e := range o.Msgs[i].Entries[:cap(o.Msgs[i].Entries)] {
			if e.Index == 77 && e.Term == 77 {
				n.t.Fatalf("node %d: two messages share their Entries", n.m.id)
			}
		}
		list := o.Msgs[i].Entries[:cap(o.Msgs[i].Entries)]
		for j := range list {
			list[j] = noop(77, 77)
		}
	}
	for i := range o.Msgs[:cap(o.Msgs)] {
		o.Msgs[:cap(o.Msgs)][i] = msg{Kind: 77}
	}
	for i := range o.Recs[:cap(o.Recs)] {
		o.Recs[:cap(o.Recs)][i] = rec{Kind: 77}
	}
	for i := range o.Reads[:cap(o.Reads)] {
		o.Reads[:cap(o.Reads)][i] = read{Id: 77}
	}
	spoilEntries(n.r.Entries(0, most))
	snap := n.r.Snap()
	spoil(snap.Sections[:]...)
}

// hearGiven gives the node a message whose memory is changed then; the call itself must not.
func (n *node) hearGiven(x msg, wait int) out {
	n.t.Helper()
	given := x
	given.Body, given.Entries = lying(x.Body), lyingEntries(x.Entries)
	o := n.r.Hear(given, wait)
	all := append(slices.Clone(x.Entries), noop(99, 99), noop(99, 99), noop(99, 99))
	if given.Body != x.Body || !slices.Equal(given.Entries[:cap(given.Entries)][:len(all)], all) {
		n.t.Fatalf("node %d: Hear changed its argument %v", n.m.id, x)
	}
	n.areApart(append(stringsOf(o), given.Body)...)
	for _, e := range given.Entries {
		n.areApart(append(stringsOf(o), e.Body)...)
	}
	spoil(given.Body)
	spoilEntries(given.Entries)
	return o
}

// R4: rows of any calls, after each of which all memory that was passed in, and all that was returned, is changed.
func TestMemoryIsItsOwn(t *testing.T) {
	counts := map[string]int{}
	for seed := range int64(500) {
		random := rand.New(rand.NewSource(seed))
		id := uint8(1 + random.Intn(5))
		n := openGiven(t, id, anyKept(random, id))
		d := &driver{random, n, counts}
		for range 200 {
			d.anyCall()
		}
	}
	if counts["installed"] < 70 || counts["MSection"] < 100 || counts["cut"] < 100 {
		t.Errorf("too little happened: %v", counts)
	}
}

// openGiven makes a node of a state whose memory is changed then.
func openGiven(t *testing.T, id uint8, k kept) *node {
	t.Helper()
	given := k
	given.Snap, given.Entries = lyingSnap(k.Snap), lyingEntries(k.Entries)
	r, e := raft.New(id, given, 10)
	if e != api.OK || !slices.Equal(given.Entries, k.Entries) || given.Snap != k.Snap {
		t.Fatalf("New: %d, %v", e, given)
	}
	spoil(given.Snap.Sections[:]...)
	spoilEntries(given.Entries)
	n := open(t, id, k, 10)
	n.r, n.spoils = r, true
	n.isAsModel("New")
	return n
}

// R4: what was returned stays as it is, whatever is called later.
func TestAnswersStay(t *testing.T) {
	for seed := range int64(200) {
		w := newWorld(t, seed, numbered, map[string]int{})
		var got, copies []out
		var entries, entryCopies [][]entry
		for range 200 {
			w.act()
			n := w.anyNode()
			o := n.r.Tick(10)
			n.done("Tick", o, n.m.tick(10))
			got, copies = append(got, o), append(copies, copyOf(o))
			list := n.r.Entries(0, most)
			entries, entryCopies = append(entries, list), append(entryCopies, slices.Clone(list))
		}
		for i := range got {
			if !sameOut(got[i], copies[i]) || !slices.Equal(entries[i], entryCopies[i]) {
				t.Fatalf("it was %v, and became %v", copies[i], got[i])
			}
		}
	}
}

// copyOf is an output whose lists are copies.
func copyOf(o out) out {
	o.Recs, o.Reads, o.Msgs = slices.Clone(o.Recs), slices.Clone(o.Reads), slices.Clone(o.Msgs)
	for i := range o.Msgs {
		o.Msgs[i].Entries = slices.Clone(o.Msgs[i].Entries)
	}
	return o
}

// R3: two nodes that are called in turns do not hear of each other.
func TestTwoNodes(t *testing.T) {
	for seed := range int64(200) {
		random := rand.New(rand.NewSource(seed))
		a := &driver{random, open(t, 1, anyKept(random, 1), 10), map[string]int{}}
		b := &driver{random, open(t, 1, anyKept(random, 1), 10), map[string]int{}}
		for range 200 {
			[]*driver{a, b}[random.Intn(2)].anyCall()
		}
	}
}

// heap is how much memory is in use.
func heap() int {
	runtime.GC()
	var m runtime.MemStats
	runtime.ReadMemStats(&m)
	return int(m.HeapAlloc)
}

// tellHas lets a node of a leader's term 1 answer that it has the log up to an index.
func tellHas(r *raft.Raft, from uint8, index, round uint64) {
	r.Hear(msg{Kind: api.MAppTell, From: from, To: 1, Term: 1, OK: true, Index: index, Round: round}, 10)
}

// leaderAlone is a node 1 that leads 1, 2 and 3 in the term 1.
func leaderAlone() *raft.Raft {
	r, _ := raft.New(1, among(7), 10)
	for range 10 {
		r.Tick(10)
	}
	r.Hear(msg{Kind: api.MVoteTell, From: 2, To: 1, Term: 1, OK: true}, 10)
	return r
}

// TestWhatPasses: however much passes through a node whose log is cut, it keeps only what is there.
func TestWhatPasses(t *testing.T) {
	r := leaderAlone()
	body := string(make([]byte, 10_000))
	empty := 0
	for index := uint64(2); index < 3000; index++ {
		r.Propose(api.EData, 0, api.Token{}, body)
		tellHas(r, 2, index, index-2)
		r.Cut(api.Snap{Index: index, Term: 1, Members: 7, Sections: [api.Queues]string{body}})
		r.Read(index)
		r.Tick(10)
		tellHas(r, 3, index, index-1)
		if index == 100 {
			empty = heap()
		}
	}
	if r.Commit() != 2999 || r.Snap().Index != 2999 {
		t.Fatalf("Commit %d, Snap %d", r.Commit(), r.Snap().Index)
	}
	if now := heap(); now-empty > 100_000 {
		t.Errorf("%d bytes more than before", now-empty)
	}
	runtime.KeepAlive(r)
}

// big is so much that what is kept of it is told from the rest.
const big = 8_000_000

// TestSnapshotThatWasSent: a snapshot that is not the newest one is kept only while it is being sent.
func TestSnapshotThatWasSent(t *testing.T) {
	for _, resigns := range []bool{false, true} {
		r := leaderAlone()
		empty := heap()
		r.Propose(api.ETick, 0, api.Token{}, "")
		r.Propose(api.ETick, 0, api.Token{}, "")
		tellHas(r, 2, 3, 0)
		r.Cut(api.Snap{Index: 2, Term: 1, Members: 7, Sections: [api.Queues]string{string(make([]byte, big))}})
		r.Tick(10)
		r.Cut(api.Snap{Index: 3, Term: 1, Members: 7})
		if now := heap(); now-empty < big {
			t.Errorf("%d bytes for what is being sent", now-empty)
		}
		if resigns {
			r.Hear(msg{Kind: api.MVoteTell, From: 2, To: 1, Term: 2}, 10)
		} else {
			tellHas(r, 3, 2, 0)
		}
		if now := heap(); now-empty > big/2 {
			t.Errorf("%d bytes for what was sent", now-empty)
		}
		runtime.KeepAlive(r)
	}
}

// TestSectionsThatAreOfNoUse: sections of a snapshot are kept only while it may be installed.
func TestSectionsThatAreOfNoUse(t *testing.T) {
	for _, index := range []uint64{3, 4} {
		r, _ := raft.New(1, among(7), 10)
		empty := heap()
		section := msg{Kind: api.MSection, From: 2, To: 1, Term: 1, Index: 3, LogTerm: 1, Members: 7, Body: string(make([]byte, big))}
		r.Hear(section, 10)
		section.Body = ""
		if now := heap(); now-empty < big {
			t.Errorf("%d bytes for what may be installed", now-empty)
		}
		if index == 4 {
			section.Index = 4
			r.Hear(section, 10)
		} else {
			r.Hear(msg{Kind: api.MAppend, From: 2, To: 1, Term: 1, Commit: 3, Entries: noops(1, 1, 1, 1)}, 10)
		}
		if now := heap(); now-empty > big/2 {
			t.Errorf("%d bytes for what is of no use", now-empty)
		}
		runtime.KeepAlive(r)
	}
}
