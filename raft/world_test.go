package raft_test

import (
	"math/rand"
	"slices"
	"strconv"
	"testing"

	"wapentake/api"
)

// place is a position that an entry has.
type place struct{ index, term uint64 }

// behindOf is an entry, and the term of the position before it.
type behindOf struct {
	entry
	before uint64
}

// world are five nodes that send one another their messages, which may be lost, doubled and received out of order; a node may lose its power, and come up with what was saved.
type world struct {
	t      *testing.T
	random *rand.Rand
	nodes  [6]*node
	under  []msg
	body   func(number int) string // of the entry proposed as that number, or of a snapshot's section
	wrote  int                     // how many entries were proposed

	leaders   map[uint64]uint8   // of the terms
	entries   map[place]behindOf // that any log had
	committed map[uint64]entry   // by their indexes
	members   map[uint64]uint8   // at the indexes that were committed
	greatest  uint64             // the greatest index that was committed
	asked     map[uint64]uint64  // reads, and what was committed when they were asked for
	nextRead  uint64
	counts    map[string]int
	trace     []out
}

func newWorld(t *testing.T, seed int64, body func(number int) string, counts map[string]int) *world {
	w := &world{t: t, random: rand.New(rand.NewSource(seed)), body: body, counts: counts}
	w.leaders, w.entries, w.committed = map[uint64]uint8{}, map[place]behindOf{}, map[uint64]entry{}
	w.members, w.asked = map[uint64]uint8{0: 7}, map[uint64]uint64{}
	for id := uint8(1); id <= 5; id++ {
		w.nodes[id] = open(t, id, among(7), w.wait())
	}
	return w
}

func (w *world) wait() int {
	return 10 + w.random.Intn(10)
}

func (w *world) anyNode() *node {
	return w.nodes[1+w.random.Intn(5)]
}

// anyLeader is a node that leads, if one does, the one of the greatest term most often.
func (w *world) anyLeader() *node {
	best := w.anyNode()
	for _, n := range w.nodes[1:] {
		if n.r.Leads() && (!best.r.Leads() || n.r.Term() > best.r.Term() && w.random.Intn(8) > 0) {
			best = n
		}
	}
	return best
}

// act lets something happen.
func (w *world) act() {
	w.t.Helper()
	switch choice := w.random.Intn(100); {
	case choice < 30:
		n := w.anyNode()
		w.ends(n, n.tick(w.wait()))
	case choice < 80:
		w.deliver()
	case choice < 88:
		w.propose()
	case choice < 90:
		n := w.anyLeader()
		_, o, code := n.change(n.r.Members() ^ 1<<w.random.Intn(5))
		w.see(code == api.ROK, "changed")
		w.ends(n, o)
	case choice < 91:
		n := w.anyLeader()
		o, ok := n.lead(uint8(1 + w.random.Intn(5)))
		w.see(ok, "handed over")
		w.ends(n, o)
	case choice < 95:
		w.read()
	case choice < 99:
		w.cut()
	default:
		w.crash()
	}
}

func (w *world) see(happened bool, what string) {
	if happened {
		w.counts[what]++
	}
}

// deliver receives a message, the first one most often.
func (w *world) deliver() {
	w.t.Helper()
	if len(w.under) == 0 {
		return
	}
	at := 0
	if w.random.Intn(3) == 0 {
		at = w.random.Intn(len(w.under))
	}
	x := w.under[at]
	fate := w.random.Intn(20)
	if fate > 0 {
		w.under = slices.Delete(w.under, at, at+1)
	}
	w.see(fate == 0, "doubled")
	w.see(fate == 1, "lost")
	if fate != 1 {
		n := w.nodes[x.To]
		w.ends(n, n.hear(x, w.wait()))
	}
}

func (w *world) propose() {
	w.t.Helper()
	n := w.anyLeader()
	w.wrote++
	_, o, ok := n.propose(entry{Kind: api.EData, Slot: uint8(w.random.Intn(4)), Token: api.Token{byte(w.wrote)}, Body: w.body(w.wrote)})
	w.see(ok, "proposed")
	w.ends(n, o)
}

func (w *world) read() {
	w.t.Helper()
	n := w.anyLeader()
	if n.read(w.nextRead) {
		w.asked[w.nextRead] = w.greatest
		w.nextRead++
	}
}

// snap is the snapshot of what is committed up to an index.
func (w *world) snap(index uint64) api.Snap {
	snap := api.Snap{Index: index, Term: w.committed[index].Term, Members: w.members[index]}
	for i := range snap.Sections {
		snap.Sections[i] = w.body(-int(index)*5 - i)
	}
	return snap
}

func (w *world) cut() {
	w.t.Helper()
	n := w.anyNode()
	first, commit := n.r.Snap().Index, n.r.Commit()
	if commit-first < 4 {
		return
	}
	if e := n.cut(w.snap(commit - uint64(w.random.Intn(3)))); e != api.OK {
		w.t.Fatalf("Cut: %d", e)
	}
	w.counts["cut"]++
}

// crash lets a node lose what it has not saved, and come up again.
func (w *world) crash() {
	w.t.Helper()
	n := w.anyNode()
	up := open(w.t, n.m.id, n.kept, w.wait())
	up.votes = n.votes
	w.nodes[n.m.id] = up
	w.counts["crashed"]++
}

// ends demands what holds of all nodes after a step of n, and lets its messages go.
func (w *world) ends(n *node, o out) {
	w.t.Helper()
	w.trace = append(w.trace, withoutBodies(o))
	if n.r.Leads() {
		leader, ok := w.leaders[n.r.Term()]
		if ok && leader != n.m.id {
			w.t.Fatalf("%d and %d lead in the term %d", leader, n.m.id, n.r.Term())
		}
		w.see(!ok, "elected")
		w.leaders[n.r.Term()] = n.m.id
	}
	w.see(o.Lost, "resigned")
	w.see(o.Lost && !conf(n.r.Members(), n.m.id), "left")
	w.agree(n, o)
	w.commits(n)
	w.told(o)
	if o.Install {
		w.counts["installed"]++
		if want := w.snap(o.Snap.Index); o.Snap != want {
			w.t.Fatalf("node %d installs %v, not %v", n.m.id, o.Snap, want)
		}
	}
	w.under = append(w.under, o.Msgs...)
	w.under = w.under[max(0, len(w.under)-64):]
}

func conf(members, node uint8) bool {
	return slices.Contains(nodesOf(members), node)
}

// agree demands that an entry of an index and a term is the same in all logs, and that what is before it has the same term there.
func (w *world) agree(n *node, o out) {
	w.t.Helper()
	for _, r := range o.Recs {
		if r.Kind != api.RecEntry {
			continue
		}
		before, _ := n.m.termAt(r.Entry.Index - 1)
		here := behindOf{r.Entry, before}
		there, ok := w.entries[place{r.Entry.Index, r.Entry.Term}]
		if ok && there != here {
			w.t.Fatalf("node %d has %v, another one had %v", n.m.id, here, there)
		}
		w.entries[place{r.Entry.Index, r.Entry.Term}] = here
	}
}

// commits demands that what n has committed is what any other node has.
func (w *world) commits(n *node) {
	w.t.Helper()
	for _, e := range n.r.Entries(0, most) {
		if e.Index > n.r.Commit() {
			break
		}
		was, ok := w.committed[e.Index]
		if ok && was != e {
			w.t.Fatalf("node %d commits %v, another one %v", n.m.id, e, was)
		}
		if !ok {
			w.committed[e.Index], w.members[e.Index] = e, n.r.MembersAt(e.Index)
			w.greatest = max(w.greatest, e.Index)
			w.counts["committed"]++
		}
	}
}

// told demands that a read is told what was committed when it was asked for.
func (w *world) told(o out) {
	w.t.Helper()
	for _, r := range o.Reads {
		when, ok := w.asked[r.Id]
		if !ok || r.Index < when {
			w.t.Fatalf("the read %v, of the time when %d was committed (%v)", r, when, ok)
		}
		delete(w.asked, r.Id)
		w.counts["read"]++
	}
}

// withoutBodies is an output without what depends on Bodies.
func withoutBodies(o out) out {
	o.Recs, o.Msgs = slices.Clone(o.Recs), slices.Clone(o.Msgs)
	for i := range o.Recs {
		o.Recs[i].Entry.Body = ""
	}
	for i, x := range o.Msgs {
		x.Body, x.Entries = "", slices.Clone(x.Entries)
		for j := range x.Entries {
			x.Entries[j].Body = ""
		}
		o.Msgs[i] = x
	}
	o.Snap.Sections = [api.Queues]string{}
	return o
}

func numbered(number int) string {
	return "number " + strconv.Itoa(number)
}

// P14.7: over rows of steps of five nodes a term has one leader and each node one vote in it, what is committed stays and is the same everywhere, and records yield what the node has.
func TestAnyWorld(t *testing.T) {
	counts := map[string]int{}
	for seed := range int64(70) {
		w := newWorld(t, seed, numbered, counts)
		for range 3000 {
			w.act()
		}
	}
	for what, least := range map[string]int{"elected": 250, "resigned": 150, "left": 40, "proposed": 4000, "committed": 4000, "changed": 300, "handed over": 200, "read": 1500, "cut": 600, "installed": 120, "crashed": 1000, "doubled": 700, "lost": 700} {
		if counts[what] < least {
			t.Errorf("only %d times: %s", counts[what], what)
		}
	}
}

// P14.7: two worlds that differ in Bodies alone do the same, but for these.
func TestOtherBodies(t *testing.T) {
	counts := map[string]int{}
	for seed := range int64(30) {
		other := rand.New(rand.NewSource(seed))
		texts := map[int]string{}
		body := func(number int) string {
			if _, ok := texts[number]; !ok {
				text := make([]byte, other.Intn(3)*other.Intn(400))
				other.Read(text)
				texts[number] = string(text)
			}
			return texts[number]
		}
		a, b := newWorld(t, seed, numbered, counts), newWorld(t, seed, body, counts)
		for range 2000 {
			a.act()
			b.act()
			last := len(a.trace) - 1
			if last != len(b.trace)-1 || last >= 0 && !sameOut(a.trace[last], b.trace[last]) {
				t.Fatalf("seed %d: the outputs differ: %v", seed, a.trace[last])
			}
		}
	}
	if counts["committed"] < 1000 || counts["installed"] < 20 {
		t.Errorf("too little happened: %v", counts)
	}
}
