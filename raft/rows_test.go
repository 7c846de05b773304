package raft_test

import (
	"math/rand"
	"slices"
	"testing"

	"wapentake/api"
)

// near is a number that is often close to n.
func near(random *rand.Rand, n uint64) uint64 {
	switch random.Intn(40) {
	case 0:
		return 0
	case 1:
		return 1 << 40
	}
	return n + 2 - min(n+2, uint64(random.Intn(5)))
}

// anyWait is a timeout within and beyond its range.
func anyWait(random *rand.Rand) int {
	if random.Intn(3) == 0 {
		return random.Intn(40) - 5
	}
	return 10 + random.Intn(10)
}

// anyEntry is a valid entry.
func anyEntry(random *rand.Rand, index, term uint64) entry {
	e := entry{Index: index, Term: term, Kind: uint8(1 + random.Intn(5))}
	switch e.Kind {
	case api.EConf:
		e.Body = string([]byte{uint8(1 + random.Intn(31))})
	case api.EData:
		e.Slot, e.Token, e.Body = uint8(random.Intn(4)), api.Token{uint8(random.Intn(256))}, anyBody(random)
	case api.EOper:
		e.Body = anyBody(random)
	}
	return e
}

func anyBody(random *rand.Rand) string {
	body := make([]byte, random.Intn(6))
	random.Read(body)
	return string(body)
}

// anyEntries are entries from an index on, whose terms rarely decrease, from a term on.
func anyEntries(random *rand.Rand, index, term uint64, count int) []entry {
	var entries []entry
	for range count {
		if random.Intn(4) == 0 {
			term += uint64(random.Intn(2))
		}
		entries = append(entries, anyEntry(random, index, term))
		index++
	}
	return entries
}

func anySnap(random *rand.Rand, index, term uint64, members uint8) api.Snap {
	snap := api.Snap{Index: index, Term: term, Members: members}
	for i := range snap.Sections {
		snap.Sections[i] = anyBody(random)
	}
	return snap
}

// anyMembers often has the node id.
func anyMembers(random *rand.Rand, id uint8) uint8 {
	members := uint8(1 + random.Intn(31))
	if random.Intn(4) > 0 {
		members |= 1 << (id - 1)
	}
	return members
}

// anyKept is a durable state whose entries fit.
func anyKept(random *rand.Rand, id uint8) kept {
	k := among(anyMembers(random, id))
	if random.Intn(2) == 0 {
		k.Snap = anySnap(random, uint64(random.Intn(20)), uint64(random.Intn(4)), k.Snap.Members)
	}
	k.Entries = anyEntries(random, k.Snap.Index+1, max(k.Snap.Term, 1), random.Intn(6))
	k.Term = k.Snap.Term + uint64(random.Intn(5))
	k.Vote = uint8(random.Intn(6))
	return k
}

// driver calls a node at random.
type driver struct {
	random *rand.Rand
	n      *node
	counts map[string]int
}

// anyCall makes a call, most often one that leads somewhere.
func (d *driver) anyCall() {
	d.n.t.Helper()
	switch choice := d.random.Intn(20); {
	case choice < 4:
		d.seeOut(d.n.tick(anyWait(d.random)))
	case choice < 13:
		d.seeOut(d.n.hear(d.anyMsg(), anyWait(d.random)))
	case choice < 15:
		_, o, ok := d.n.propose(anyEntry(d.random, 0, 0))
		d.seeOut(o)
		d.see(ok, "proposed")
	case choice < 16:
		_, o, code := d.n.change(d.anyChange())
		d.seeOut(o)
		d.see(code == api.ROK, "changed")
	case choice < 17:
		o, ok := d.n.lead(uint8(d.random.Intn(7)))
		d.seeOut(o)
		d.see(ok, "handed over")
	case choice < 19:
		d.see(d.n.read(uint64(d.random.Intn(30))), "asked")
	default:
		d.see(d.n.cut(d.anyCut()) == api.OK, "cut")
	}
}

// see counts what happened.
func (d *driver) see(happened bool, what string) {
	if happened {
		d.counts[what]++
	}
}

func (d *driver) seeOut(o out) {
	d.see(o.Lost, "lost")
	d.see(o.Install, "installed")
	d.see(len(o.Reads) > 0, "read")
	for _, x := range o.Msgs {
		d.counts[[]string{"none", "MVote", "MVoteTell", "MAppend", "MAppTell", "MSection", "MSecTell", "MStandNow"}[x.Kind]]++
	}
	d.see(d.n.r.Leads(), "leads")
}

func (d *driver) anyChange() uint8 {
	if d.random.Intn(4) == 0 {
		return uint8(d.random.Intn(256))
	}
	return d.n.r.Members() ^ 1<<d.random.Intn(5)
}

func (d *driver) anyCut() api.Snap {
	index := near(d.random, d.n.r.Commit()-min(d.n.r.Commit(), 2))
	term, _ := d.n.m.termAt(index)
	members := d.n.r.MembersAt(index)
	if d.random.Intn(5) == 0 {
		term++
	}
	if d.random.Intn(5) == 0 {
		members ^= 1 << d.random.Intn(5)
	}
	return anySnap(d.random, index, term, members)
}

// anyMsg is a message, most often one that the node may expect.
func (d *driver) anyMsg() msg {
	random, n := d.random, d.n
	x := msg{From: uint8(1 + random.Intn(5)), To: n.m.id, Term: n.r.Term()}
	if x.From == x.To && random.Intn(8) > 0 {
		x.From = x.From%5 + 1
	}
	switch random.Intn(60) {
	case 0:
		x.From = uint8(random.Intn(256))
	case 1:
		x.To = uint8(random.Intn(256))
	case 2, 3, 4:
		x.Term -= min(x.Term, 1)
	case 5, 6:
		x.Term++
	}
	x.Kind = d.anyKind()
	d.fill(&x)
	return x
}

// anyKind is most often one that is meant for the node's role.
func (d *driver) anyKind() uint8 {
	if d.random.Intn(4) == 0 {
		return uint8(d.random.Intn(9))
	}
	switch {
	case d.n.r.Leads():
		return []uint8{api.MAppTell, api.MAppTell, api.MAppTell, api.MSecTell}[d.random.Intn(4)]
	case d.n.m.role == "candidate":
		return api.MVoteTell
	}
	return []uint8{api.MVote, api.MAppend, api.MAppend, api.MAppend, api.MSection, api.MSection, api.MStandNow}[d.random.Intn(7)]
}

// fill sets the fields that the Kind uses.
func (d *driver) fill(x *msg) {
	random, r := d.random, d.n.r
	lastIndex, lastTerm := r.Last()
	x.OK = random.Intn(5) > 0
	x.Round = near(random, d.n.m.round)
	x.Index, x.LogTerm = near(random, lastIndex), near(random, lastTerm)
	switch x.Kind {
	case api.MAppend:
		d.fillAppend(x)
	case api.MSection:
		d.fillSection(x)
	case api.MSecTell:
		x.Section = uint8(random.Intn(7))
		if p := d.n.m.peers[d.n.m.id%5+1]; random.Intn(4) > 0 && x.From >= 1 && x.From <= 5 {
			p = d.n.m.peers[x.From]
			x.Index = p.snap.Index
		}
	}
}

// fillAppend often sets entries that continue the node's log, or agree with it.
func (d *driver) fillAppend(x *msg) {
	random, r := d.random, d.n.r
	from := []uint64{r.Snap().Index, r.Commit(), x.Index}[random.Intn(3)]
	x.Index = near(random, from)
	if term, ok := d.n.m.termAt(x.Index); ok && random.Intn(6) > 0 {
		x.LogTerm = term
	}
	x.Commit = near(random, r.Commit()+1)
	if random.Intn(2) == 0 {
		x.Entries = r.Entries(x.Index+1, random.Intn(4))
	}
	next, term := x.Index+uint64(len(x.Entries))+1, max(x.LogTerm, 1)
	if len(x.Entries) > 0 {
		next, term = x.Entries[len(x.Entries)-1].Index+1, x.Entries[len(x.Entries)-1].Term
	}
	if random.Intn(20) == 0 {
		next++
	}
	x.Entries = append(x.Entries, anyEntries(random, next, term, random.Intn(4))...)
}

// fillSection often sets one that is missing.
func (d *driver) fillSection(x *msg) {
	random := d.random
	x.Index, x.LogTerm = near(random, d.n.r.Commit()+2), max(x.LogTerm, 1)
	x.Members, x.Body = anyMembers(random, d.n.m.id), anyBody(random)
	if part := d.n.m.part; part.Index > 0 && random.Intn(10) > 0 {
		x.Index, x.LogTerm, x.Members = part.Index, part.Term, part.Members
	}
	x.Section = uint8(random.Intn(5))
	for slices.Contains(d.n.m.parts, int(x.Section)) && random.Intn(3) > 0 {
		x.Section = (x.Section + 1) % 5
	}
	if random.Intn(12) == 0 {
		x.Section = uint8(random.Intn(256))
	}
}

// P14.1 to P14.7: rows of any calls of one node, each of which outputs what the model does, and after which the node is as the model.
func TestAnyRow(t *testing.T) {
	counts := map[string]int{}
	for seed := range int64(1500) {
		random := rand.New(rand.NewSource(seed))
		id := uint8(1 + random.Intn(5))
		d := &driver{random, open(t, id, anyKept(random, id), anyWait(random)), counts}
		for range 200 {
			d.anyCall()
		}
	}
	for _, what := range []string{"lost", "installed", "read", "leads", "proposed", "changed", "handed over", "asked", "cut", "MVote", "MVoteTell", "MAppend", "MAppTell", "MSection", "MSecTell", "MStandNow"} {
		if counts[what] < 150 {
			t.Errorf("only %d times: %s", counts[what], what)
		}
	}
}
