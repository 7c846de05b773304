package wal_test

import (
	"math/rand"
	"slices"
	"strings"
	"testing"

	"wapentake/api"
	"wapentake/disk"
	"wapentake/wal"
)

// plan is a segment to be written: a base, and what each Add has.
type plan struct {
	base []api.Rec
	adds [][]api.Rec
}

func (p plan) records() []api.Rec {
	return slices.Concat(p.base, slices.Concat(p.adds...))
}

// operations are how many disk operations all of it needs.
func (p plan) operations() int {
	n := len(p.base) + 2
	for _, recs := range p.adds {
		if len(recs) > 0 {
			n += len(recs) + 1
		}
	}
	return n
}

// fate is what becomes of a plan if power is lost at an operation.
type fate struct {
	errors           []api.Errno // of Begin and of each Add
	appended, synced int         // rows on the disk
	sure, perhaps    int         // records: of calls that returned OK, and of the one that returned ErrDown
}

// burn goes through the operations of a plan with a fuse, by the chapter's words.
func (p plan) burn(fuse int) fate {
	var f fate
	counts := []int{len(p.base) + 1}
	for _, recs := range p.adds {
		counts = append(counts, len(recs))
	}
	down := false
	operate := func() bool {
		fuse--
		down = down || fuse == 0
		return !down
	}
	for k, rows := range counts {
		begun := f.appended
		wasDown := down
		for range rows {
			if !down && operate() {
				f.appended++
			}
		}
		if rows > 0 && !down && operate() {
			f.synced = f.appended
		}
		switch {
		case !down:
			f.errors = append(f.errors, api.OK)
			f.sure = max(f.appended-1, 0)
			continue
		case !wasDown && k > 0:
			f.perhaps = f.appended - begun
		}
		f.errors = append(f.errors, api.ErrDown)
	}
	return f
}

// write carries a plan out, and demands that each call returns what it is fated to.
func (p plan) write(t *testing.T, d *disk.Disk, n, snap uint64, f fate) *wal.Log {
	t.Helper()
	l, e := wal.Begin(d, &table, n, snap, p.base)
	if e != f.errors[0] || (l == nil) != (e != api.OK) {
		t.Fatalf("Begin returned %v, %d, not %d", l, e, f.errors[0])
	}
	behind := 0
	for k, recs := range p.adds {
		want := f.errors[k+1]
		if l == nil {
			want = api.ErrNil
		}
		are(t, want, l.Add(recs...))
		if want == api.OK {
			behind += len(recs)
		}
		if l != nil {
			isBehind(t, l, n, behind)
		}
	}
	return l
}

var plans = []plan{
	{}, {base: states(1)}, {base: states(3)},
	{adds: [][]api.Rec{states(1)}}, {adds: [][]api.Rec{states(2), nil, {data(1, "body")}}},
	{base: []api.Rec{s}, adds: [][]api.Rec{{data(1, strings.Repeat("x", 140)), s}, {s}}},
	{base: []api.Rec{s, data(4, rows(states(2)...)), state(1 << 40)}, adds: [][]api.Rec{states(3), {data(5, headByHand(0, 1))}, nil, states(2)}},
}

// TestPowerLostAtEachOperation: of Begin and of Add, with each number of records that a crash leaves, and torn ends of many sizes.
func TestPowerLostAtEachOperation(t *testing.T) {
	t.Parallel()
	for _, p := range plans {
		for fuse := 1; fuse <= p.operations()+1; fuse++ {
			f := p.burn(fuse)
			d := disk.New()
			are(t, api.OK, d.Append("another", "x"), d.Append("zz", "x"))
			d.Fuse(fuse)
			p.write(t, d, 3, 9, f)
			if d.Down() != (fuse <= p.operations()) {
				t.Fatalf("a fuse of %d: down %v", fuse, d.Down())
			}
			for keep := -1; keep <= f.appended-f.synced+1; keep++ {
				for _, torn := range []int{0, 1, 2, 4, 5, 6, 7, 8, 20, 100, 146, -1, -2, -5} {
					p.lasts(t, d, f, keep, torn)
				}
			}
		}
	}
}

// lasts demands of a disk after a crash that what was written of a plan is stored as far as it must be, and no more than it may be.
func (p plan) lasts(t *testing.T, d *disk.Disk, f fate, keep, torn int) {
	t.Helper()
	// The file "another" comes first, and takes the first choice.
	u := crashed(d, []int{1, keep}, []int{0, torn})
	if f.appended == 0 {
		isNotRead(t, api.ErrNone, u, &table, 3)
		areSegments(t, u)
		return
	}
	areSegments(t, u, 3)
	whole := f.synced + min(max(keep, 0), f.appended-f.synced)
	if whole == 0 {
		isRead(t, u, 3, 0, nil, false)
		return
	}
	recs := p.records()[:whole-1]
	isRead(t, u, 3, 9, recs, whole > len(p.base))
	if f.errors[0] == api.OK && (whole <= len(p.base) || len(recs) < f.sure || len(recs) > f.sure+f.perhaps) {
		t.Fatalf("%d records, where %d are sure and %d more may be", len(recs), f.sure, f.perhaps)
	}
	// It is the same after further crashes, and cannot be begun again.
	isRead(t, crashed(u, []int{0, 0}, []int{1, 1}), 3, 9, recs, whole > len(p.base))
	isNoLog(t, api.ErrThere, u, &table, 3, nil)
}

// TestEachTear: of a row behind a segment's end, any bytes.
func TestEachTear(t *testing.T) {
	for _, r := range []api.Rec{s, state(1 << 40), data(1, ""), data(1, strings.Repeat("x", 113)), data(1, strings.Repeat("x", 114)), data(1, rows(states(4)...)), data(1, segment(0, nil, states(9)...))} {
		row := rows(r)
		for base := range 3 {
			for torn := range row {
				d := disk.New()
				l := begin(t, d, 1, 9, states(base)...)
				d.Fuse(3)
				are(t, api.ErrDown, l.Add(s, r))
				u := crashed(d, []int{1}, []int{torn})
				if got := contentsOf(u)[wal.Name(1)]; got != segment(9, states(base), s)+row[:torn] {
					t.Fatalf("%x is left", got)
				}
				isRead(t, u, 1, 9, append(states(base), s), true)
				isRead(t, crashed(d, nil, []int{torn}), 1, 9, states(base), true)
				isRead(t, crashed(d, []int{2}, []int{torn}), 1, 9, append(states(base), s, r), true)
			}
		}
	}
}

func TestATornHead(t *testing.T) {
	for _, base := range [][]api.Rec{nil, states(2)} {
		head := headByHand(uint64(len(base)), 1<<40)
		for torn := range head {
			d := disk.New()
			d.Fuse(2)
			isDownAtBegin(t, d, 1<<40, base)
			u := crashed(d, nil, []int{torn})
			if got := contentsOf(u)[wal.Name(1)]; got != head[:torn] {
				t.Fatalf("%x is left", got)
			}
			isRead(t, u, 1, 0, nil, false)
			areSegments(t, u, 1)
			isRead(t, crashed(d, []int{1}, nil), 1, 1<<40, nil, len(base) == 0)
		}
	}
}

// isDownAtBegin demands that power is lost while the segment 1 is begun.
func isDownAtBegin(t *testing.T, d *disk.Disk, snap uint64, base []api.Rec) {
	t.Helper()
	if l, e := wal.Begin(d, &table, 1, snap, base); l != nil || e != api.ErrDown {
		t.Fatalf("Begin returned %v, %d", l, e)
	}
}

// TestFewerRecordsThanTheBaseHas: they are told, and the segment does not count.
func TestFewerRecordsThanTheBaseHas(t *testing.T) {
	d := disk.New()
	d.Fuse(6)
	isDownAtBegin(t, d, 9, states(4))
	for keep := 1; keep <= 5; keep++ {
		isRead(t, crashed(d, []int{keep}, []int{3}), 1, 9, states(keep-1), keep == 5)
	}
	// At the very sync: all is there, if the crash leaves it.
	isRead(t, crashed(d, []int{5}, nil), 1, 9, states(4), true)
	isRead(t, crashed(d, nil, nil), 1, 0, nil, false)
}

// TestALogGoesOnBehindACrash: if its file is not cut; otherwise no record is taken, and no operation is done.
func TestALogGoesOnBehindACrash(t *testing.T) {
	for keep := range 4 {
		d := disk.New()
		l := begin(t, d, 1, 9, s)
		are(t, api.OK, l.Add(state(1)))
		d.Fuse(4)
		are(t, api.ErrDown, l.Add(state(2), state(3), state(4)))
		isBehind(t, l, 1, 1)
		are(t, api.ErrDown, l.Add(), l.Add(state(5)), l.Add(api.Rec{}))
		d.Crash(api.Crash{Keep: []int{keep}, Torn: []int{3}})
		are(t, api.ErrDown, l.Add(state(5)))
		d.Start()
		before := contentsOf(d)[wal.Name(1)]
		left := append([]api.Rec{s, state(1)}, []api.Rec{state(2), state(3), state(4)}[:keep]...)
		isRead(t, d, 1, 9, left, true)
		d.Fuse(3)
		are(t, api.OK, l.Add())
		are(t, api.ErrArg, l.Add(api.Rec{}))
		if keep < 3 {
			are(t, api.ErrState, l.Add(state(5)), l.Add(state(5), state(6)), l.Add(state(5)))
			are(t, api.ErrArg, l.Add(state(5), api.Rec{}))
			isBehind(t, l, 1, 1)
			if d.Fused() != 3 || contentsOf(d)[wal.Name(1)] != before {
				t.Fatalf("a fuse of %d, or the file changed", d.Fused())
			}
			isRead(t, d, 1, 9, left, true)
			continue
		}
		are(t, api.OK, l.Add(state(5)))
		isBehind(t, l, 1, 2)
		isRead(t, d, 1, 9, append(left, state(5)), true)
		if d.Fused() != 1 {
			t.Fatalf("a fuse of %d", d.Fused())
		}
		isRead(t, crashed(d, nil, nil), 1, 9, append(left, state(5)), true)
	}
}

// TestALogGoesOnBehindAFuse: without a crash, what was appended ahead of the fuse's end is there, and goes on.
func TestALogGoesOnBehindAFuse(t *testing.T) {
	d := disk.New()
	l := begin(t, d, 1, 9, s)
	d.Fuse(2)
	are(t, api.ErrDown, l.Add(state(1), state(2)))
	d.Start()
	are(t, api.OK, l.Add(state(3)))
	isBehind(t, l, 1, 1)
	isRead(t, crashed(d, nil, nil), 1, 9, []api.Rec{s, state(1), state(3)}, true)
}

// TestSegmentsThatDifferInBodiesAlone go the same way: the same errors, the same numbers of records, whatever their entries' Bodies are and however long.
func TestSegmentsThatDifferInBodiesAlone(t *testing.T) {
	t.Parallel()
	for seed := range int64(400) {
		random := rand.New(rand.NewSource(seed))
		a, b := &side{d: disk.New()}, &side{d: disk.New()}
		for step := range 60 {
			x, n := random.Intn(8), uint64(random.Intn(4))
			recs, others := alike(random, random.Intn(4))
			keep := []int{random.Intn(5), random.Intn(5), random.Intn(5)}
			fuse := random.Intn(12)
			went := a.step(x, n, fuse, recs, api.Crash{Keep: keep, Torn: []int{random.Intn(60), random.Intn(60), random.Intn(60)}})
			if also := b.step(x, n, fuse, others, api.Crash{Keep: keep, Torn: []int{random.Intn(60), random.Intn(60)}}); also != went {
				t.Fatalf("the step %d of the row %d returned %d and %d", step, seed, went, also)
			}
			goTheSameWay(t, a, b)
		}
	}
}

// side is a disk, and the log that was begun last.
type side struct {
	d *disk.Disk
	l *wal.Log
}

func (x *side) step(kind int, n uint64, fuse int, recs []api.Rec, c api.Crash) api.Errno {
	switch kind {
	case 0, 1:
		l, e := wal.Begin(x.d, &table, n, n*5, recs)
		if e == api.OK {
			x.l = l
		}
		return e
	case 2:
		x.d.Fuse(fuse)
	case 3:
		x.d.Crash(c)
		x.d.Start()
	case 4:
		return x.d.Delete(wal.Name(n))
	default:
		return x.l.Add(recs...)
	}
	return api.OK
}

// alike returns two lists of records that differ in the Bodies alone.
func alike(random *rand.Rand, n int) (recs, others []api.Rec) {
	for k := range n {
		r := state(uint64(random.Intn(3)))
		o := r
		if random.Intn(3) > 0 {
			r = data(uint64(k+1), strings.Repeat("x", random.Intn(40)))
			o = data(uint64(k+1), strings.Repeat("\x00", random.Intn(400)))
		}
		if random.Intn(20) == 0 {
			r.Vote, o.Vote = 1, 1
		}
		recs, others = append(recs, r), append(others, o)
	}
	return recs, others
}

// goTheSameWay demands that two sides tell the same, but for the Bodies.
func goTheSameWay(t *testing.T, a, b *side) {
	t.Helper()
	isBehind(t, a.l, b.l.N(), b.l.Behind())
	areSegments(t, a.d, wal.Segments(b.d)...)
	if a.d.Down() != b.d.Down() || a.d.Fused() != b.d.Fused() {
		t.Fatalf("down %v, %v; fuses of %d, %d", a.d.Down(), b.d.Down(), a.d.Fused(), b.d.Fused())
	}
	for n := range uint64(4) {
		all, synced := a.d.Records(wal.Name(n))
		if others, othersSynced := b.d.Records(wal.Name(n)); all != others || synced != othersSynced {
			t.Fatalf("the segment %d: %d and %d rows, %d and %d of them synced", n, all, others, synced, othersSynced)
		}
		snap, recs, counts, e := wal.Read(a.d, &table, n)
		otherSnap, others, otherCounts, f := wal.Read(b.d, &table, n)
		if snap != otherSnap || counts != otherCounts || e != f || !slices.Equal(withoutBodies(recs), withoutBodies(others)) {
			t.Fatalf("the segment %d: %d, %v, %v, %d and %d, %v, %v, %d", n, snap, recs, counts, e, otherSnap, others, otherCounts, f)
		}
	}
}

func withoutBodies(recs []api.Rec) []api.Rec {
	bare := slices.Clone(recs)
	for i := range bare {
		bare[i].Entry.Body = ""
	}
	return bare
}
