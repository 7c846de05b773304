package stable_test

import (
	"slices"
	"strconv"
	"strings"
	"testing"

	"wapentake/api"
	"wapentake/disk"
	"wapentake/stable"
	"wapentake/wal"
)

// The kinds of calls.
const (
	opens = iota
	saves
	cuts
)

// call is an Open of the disk, or a call of one of the store's methods.
type call struct {
	kind int
	recs []api.Rec
	snap api.Snap
}

func opening() call               { return call{kind: opens} }
func saving(recs ...api.Rec) call { return call{kind: saves, recs: recs} }
func cutting(snap api.Snap) call  { return call{kind: cuts, snap: snap} }
func manyStates(n int) []api.Rec  { return slices.Repeat([]api.Rec{state(3, 1)}, n) }

// model is a store by the chapter's words, on a disk of its own.
type model struct {
	d      *disk.Disk
	k      stable.Kept
	n      uint64 // the number of the segment; 0 if there is no store
	behind int
	lost   bool
	snaps  []api.Snap // all that were written
}

// operation is one of the disk: an Append of a record, a Sync without one, or a Delete.
type operation struct {
	name, record string
	deletes      bool
}

// run does operations up to the first that fails.
func (m *model) run(all []operation) api.Errno {
	e := api.OK
	for _, o := range all {
		switch {
		case o.deletes:
			e = m.d.Delete(o.name)
		case o.record == "":
			e = m.d.Sync(o.name)
		default:
			e = m.d.Append(o.name, o.record)
		}
		if e != api.OK {
			break
		}
	}
	return e
}

// writing are the operations that write a file's rows.
func writing(name string, rows []string) []operation {
	var all []operation
	for _, row := range rows {
		all = append(all, operation{name: name, record: row})
	}
	return append(all, operation{name: name})
}

func beginning(n uint64, k stable.Kept) []operation {
	return writing(segName(n), segmentByHand(k.Snap.Index, baseByHand(k)))
}

func deleting(name string) operation { return operation{name: name, deletes: true} }

func isNumbered(name, prefix string, byHand func(uint64) string) bool {
	n, e := strconv.ParseUint(strings.TrimPrefix(name, prefix), 10, 64)
	return e == nil && byHand(n) == name
}

// read is the durable state on the disk.
func (m *model) read() stable.Kept {
	numbers := wal.Segments(m.d)
	slices.Reverse(numbers)
	for _, n := range numbers {
		index, recs, counts, _ := wal.Read(m.d, &table, n)
		if !counts {
			continue
		}
		k := stable.Kept{}
		for _, snap := range m.snaps {
			if contentsOf(m.d, snapName(index)) == strings.Join(snapByHand(snap), "") {
				k.Snap = snap
			}
		}
		k, _ = afterByHand(k, recs...)
		return k
	}
	return stable.Kept{}
}

func (m *model) open() api.Errno {
	was := m.d
	*m = model{d: was, snaps: m.snaps}
	if m.d.Down() {
		return api.ErrDown
	}
	k, n := m.read(), uint64(1)
	if numbers := wal.Segments(m.d); len(numbers) > 0 {
		n = slices.Max(numbers) + 1
	}
	all := beginning(n, k)
	for _, name := range m.d.List() {
		if isNumbered(name, "seg.", segName) || isNumbered(name, "snap.", snapName) && name != snapName(k.Snap.Index) {
			all = append(all, deleting(name))
		}
	}
	e := m.run(all)
	if e == api.OK {
		m.k, m.n = k, n
	}
	return e
}

// power is why nothing can be done.
func (m *model) power() api.Errno {
	switch {
	case m.n == 0:
		return api.ErrNil
	case m.lost || m.d.Down():
		return api.ErrDown
	}
	return api.OK
}

func (m *model) save(recs []api.Rec) api.Errno {
	if e := m.power(); e != api.OK {
		return e
	}
	k, ok := afterByHand(m.k, recs...)
	if !ok {
		return api.ErrArg
	}
	if len(recs) == 0 {
		return api.OK
	}
	all, n, behind := writing(segName(m.n), rowsByHand(recs)), m.n, m.behind+len(recs)
	if behind >= 32 {
		n, behind = m.n+1, 0
		all = append(all, append(beginning(n, k), deleting(segName(m.n)))...)
	}
	return m.end(m.run(all), k, n, behind)
}

func (m *model) cut(snap api.Snap) api.Errno {
	if e := m.power(); e != api.OK {
		return e
	}
	k, ok := cutByHand(m.k, snap)
	if !ok {
		return api.ErrOld
	}
	m.snaps = append(m.snaps, snap)
	all := append(writing(snapName(snap.Index), snapByHand(snap)), beginning(m.n+1, k)...)
	all = append(all, deleting(segName(m.n)))
	if m.k.Snap.Index > 0 {
		all = append(all, deleting(snapName(m.k.Snap.Index)))
	}
	return m.end(m.run(all), k, m.n+1, 0)
}

func (m *model) end(e api.Errno, k stable.Kept, n uint64, behind int) api.Errno {
	if e != api.OK {
		m.lost = true
		return e
	}
	m.k, m.n, m.behind = k, n, behind
	return api.OK
}

// may are the states of which a call that is interrupted may leave one.
func (m *model) may(x call) []stable.Kept {
	all := []stable.Kept{m.k}
	switch x.kind {
	case saves:
		for n := range x.recs {
			if k, ok := afterByHand(m.k, x.recs[:n+1]...); ok {
				all = append(all, k)
			}
		}
	case cuts:
		if k, ok := cutByHand(m.k, x.snap); ok {
			all = append(all, k)
		}
	}
	return all
}

// pair is a store and its model, each on a disk.
type pair struct {
	s *stable.Store
	d *disk.Disk
	m *model
}

func newPair() *pair { return &pair{d: disk.New(), m: &model{d: disk.New()}} }

// twin is a pair on twins of the disks, without a store.
func (p *pair) twin() *pair {
	return &pair{d: p.d.Twin(), m: &model{d: p.m.d.Twin(), snaps: p.m.snaps}}
}

// crash lets both disks crash, and turns the power on.
func (p *pair) crash(keep, torn int) {
	for _, d := range []*disk.Disk{p.d, p.m.d} {
		d.Crash(api.Crash{Keep: []int{keep}, Torn: []int{torn}})
		d.Start()
		d.Fuse(0)
	}
}

func (p *pair) fuse(n int) {
	p.d.Fuse(n)
	p.m.d.Fuse(n)
}

// do makes a call, and demands that the store does to its disk what the model does, and returns and keeps the same.
func (p *pair) do(t *testing.T, x call) api.Errno {
	t.Helper()
	var got, want api.Errno
	switch x.kind {
	case opens:
		var k stable.Kept
		p.s, k, got = stable.Open(p.d, &table)
		want = p.m.open()
		isKept(t, k, p.m.k)
		if (p.s == nil) != (want != api.OK) {
			t.Fatalf("Open returned %v, %d", p.s, got)
		}
	case saves:
		got, want = p.s.Save(x.recs...), p.m.save(x.recs)
	case cuts:
		got, want = p.s.Cut(x.snap), p.m.cut(x.snap)
	}
	if got != want {
		t.Fatalf("%v returned %d, not %d", x, got, want)
	}
	areEqual(t, p.d, p.m.d)
	isKept(t, p.s.Kept(), p.m.k)
	return got
}

// does demands that calls return OK.
func (p *pair) does(t *testing.T, calls ...call) {
	t.Helper()
	for _, x := range calls {
		are(t, api.OK, p.do(t, x))
	}
}

// opened is a pair behind these calls, the first of which opens it.
func opened(t *testing.T, calls ...call) *pair {
	t.Helper()
	p := newPair()
	p.does(t, opening())
	p.does(t, calls...)
	return p
}

// operations are how many operations a call needs, told by a fuse that is too long for it.
func (p *pair) operations(t *testing.T, x call) int {
	t.Helper()
	const long = 1 << 20
	p.fuse(long)
	p.does(t, x)
	n := long - p.d.Fused()
	p.fuse(0)
	return n
}
