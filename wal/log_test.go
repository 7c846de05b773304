package wal_test

import (
	"maps"
	"math"
	"slices"
	"testing"

	"wapentake/api"
	"wapentake/disk"
	"wapentake/sum"
	"wapentake/wal"
)

func TestExamples(t *testing.T) {
	d := disk.New()
	l := begin(t, d, 1, 0, s)
	isRead(t, d, 1, 0, []api.Rec{s}, true)
	areSegments(t, d, 1)
	isBehind(t, l, 1, 0)
	are(t, api.OK, l.Add(s, s))
	isBehind(t, l, 1, 2)
	are(t, api.ErrArg, l.Add(api.Rec{Kind: 9}))
	isNoLog(t, api.ErrThere, d, &table, 1, nil)
	has(t, d, "seg.00000001", headByHand(1, 0)+rowByHand("\x02\x05\x02")+rowByHand("\x02\x05\x02")+rowByHand("\x02\x05\x02"), 4)
}

// TestTheBytesOfASegment: as the chapter's words have them, once byte by byte.
func TestTheBytesOfASegment(t *testing.T) {
	d := disk.New()
	l := begin(t, d, 300, 128, s, data(7, "xy"))
	head := "\x04" + "\x32\x2c\xd1\xfc" + "\x01" + "\x02" + "\x81\x00"
	state := "\x03" + "\x93\x18\x78\x2b" + "\x02" + "\x05" + "\x02"
	entry := "\x10" + "\x79\xa0\x35\x63" + "\x03" + "\x03\x07\x02\x01\x01\x02\x03\x00\x00\x00\x00\x00\x02xy"
	has(t, d, "seg.00000300", head+state+entry, 3)
	are(t, api.OK, l.Add(s))
	has(t, d, "seg.00000300", head+state+entry+state, 4)
}

func TestBegin(t *testing.T) {
	many := manyRecords()
	for _, base := range [][]api.Rec{nil, {}, {s}, {data(1, "")}, {s, s}, {s, data(2, "b"), data(2, "b"), s}, states(127), states(128), many} {
		for _, n := range []uint64{0, 1, 99999999, 100000000, math.MaxUint64} {
			snap := n / 3
			d := disk.New()
			l := begin(t, d, n, snap, base...)
			isBehind(t, l, n, 0)
			// One disk operation each, and all of it is synced.
			has(t, d, wal.Name(n), segment(snap, base), len(base)+1)
			isRead(t, d, n, snap, base, true)
		}
	}
}

func TestEachNumberInTheHead(t *testing.T) {
	for k, n := range numbers {
		snap := numbers[len(numbers)-1-k]
		d := disk.New()
		isBehind(t, begin(t, d, n, snap, s), n, 0)
		has(t, d, wal.Name(n), headByHand(1, snap)+rows(s), 2)
		isRead(t, d, n, snap, []api.Rec{s}, true)
	}
}

func TestEachRecordByItself(t *testing.T) {
	for _, r := range manyRecords() {
		d := disk.New()
		l := begin(t, d, 1, 9, r)
		has(t, d, wal.Name(1), segment(9, []api.Rec{r}), 2)
		are(t, api.OK, l.Add(r))
		has(t, d, wal.Name(1), segment(9, []api.Rec{r}, r), 3)
		isRead(t, d, 1, 9, []api.Rec{r, r}, true)
	}
}

// TestOperationsOfBegin: one for the head, one for each record, and one for the sync; none where it fails.
func TestOperationsOfBegin(t *testing.T) {
	for size := range 5 {
		d := disk.New()
		d.Fuse(100)
		begin(t, d, 1, 0, states(size)...)
		if d.Fused() != 100-size-2 {
			t.Fatalf("%d operations for a base of %d", 100-d.Fused(), size)
		}
		d.Fuse(1)
		isNoLog(t, api.ErrThere, d, &table, 1, states(size))
		isNoLog(t, api.ErrArg, d, &table, 2, append(states(size), api.Rec{}))
		isNoLog(t, api.ErrNil, d, nil, 2, nil)
		isNoLog(t, api.ErrNil, nil, &table, 2, nil)
		if d.Fused() != 1 || d.Down() {
			t.Fatalf("a fuse of %d, down %v", d.Fused(), d.Down())
		}
	}
}

func TestOperationsOfAdd(t *testing.T) {
	d := disk.New()
	l := begin(t, d, 1, 0)
	for size := range 5 {
		d.Fuse(100)
		are(t, api.OK, l.Add(states(size)...))
		want := size + 1
		if size == 0 {
			want = 0
		}
		if 100-d.Fused() != want {
			t.Fatalf("%d operations for %d records", 100-d.Fused(), size)
		}
		d.Fuse(1)
		are(t, api.OK, l.Add(), l.Add(nil...), l.Add([]api.Rec{}...))
		are(t, api.ErrArg, l.Add(append(states(size), api.Rec{})...))
		if d.Fused() != 1 || d.Down() {
			t.Fatalf("a fuse of %d, down %v", d.Fused(), d.Down())
		}
	}
}

func TestBeginOfAFileThatIsThere(t *testing.T) {
	d := disk.New()
	name := wal.Name(5)
	for _, contents := range []string{"x", headByHand(0, 0), segment(3, states(2))} {
		are(t, api.OK, d.Append(name, contents), d.Append("seg.00000006", "x"), d.Append("other", "x"))
		// One that is not synced, too.
		before := contentsOf(d)
		isNoLog(t, api.ErrThere, d, &table, 5, nil)
		isNoLog(t, api.ErrThere, d, &table, 5, states(3))
		isNoLog(t, api.ErrThere, d, &table, 5, []api.Rec{{}})
		isNoLog(t, api.ErrThere, d, &table, 6, nil)
		if after := contentsOf(d); !maps.Equal(after, before) {
			t.Fatalf("%x, not %x", after, before)
		}
		// It is gone only if it is deleted or renamed.
		are(t, api.OK, d.Delete(name))
		isBehind(t, begin(t, d, 5, 0), 5, 0)
		isNoLog(t, api.ErrThere, d, &table, 5, nil)
		are(t, api.OK, d.Rename(name, "away"))
		isBehind(t, begin(t, d, 5, 0), 5, 0)
		are(t, api.OK, d.Delete(name))
	}
	// A file of which a crash left nothing exists, too.
	isNoLog(t, api.ErrThere, empty(t), &table, 1, nil)
}

func TestNeighboursAreNotTouched(t *testing.T) {
	d, _ := fullDisk(t)
	before := contentsOf(d)
	l := begin(t, d, 6, 0, s)
	are(t, api.OK, l.Add(s))
	after := contentsOf(d)
	if after[wal.Name(6)] != segment(0, []api.Rec{s}, s) {
		t.Fatalf("%x", after[wal.Name(6)])
	}
	delete(after, wal.Name(6))
	if !maps.Equal(after, before) {
		t.Fatalf("%x, not %x", after, before)
	}
	if all, synced := d.Records(wal.Name(7)); all != 1 || synced != 0 {
		t.Fatalf("a neighbour has %d records, %d of them synced", all, synced)
	}
}

func TestNoRecordsInABase(t *testing.T) {
	for _, r := range noRecords() {
		for _, base := range [][]api.Rec{{r}, {r, s}, {s, r}, {s, data(1, "x"), r, s}} {
			d := disk.New()
			isNoLog(t, api.ErrArg, d, &table, 1, base)
			if len(d.List()) != 0 {
				t.Fatalf("%v: files %q", base, d.List())
			}
		}
	}
}

func TestNoRecordsToAdd(t *testing.T) {
	d := disk.New()
	l := begin(t, d, 1, 2, s)
	want := segment(2, []api.Rec{s})
	for _, r := range noRecords() {
		are(t, api.ErrArg, l.Add(r), l.Add(r, s), l.Add(s, r), l.Add(s, data(1, "x"), r, s), l.Add(r, r))
		isBehind(t, l, 1, 0)
		has(t, d, wal.Name(1), want, 2)
	}
	are(t, api.OK, l.Add(s, s))
	are(t, api.ErrArg, l.Add(s, api.Rec{}))
	isBehind(t, l, 1, 2)
	has(t, d, wal.Name(1), want+rows(s, s), 4)
}

func TestAdd(t *testing.T) {
	many := manyRecords()
	for _, base := range [][]api.Rec{nil, {s}, states(3)} {
		d := disk.New()
		l := begin(t, d, 8, 4, base...)
		var added []api.Rec
		for _, recs := range [][]api.Rec{{s}, nil, {}, states(2), {data(1, "x")}, many, {s, data(1, ""), s}} {
			are(t, api.OK, l.Add(recs...))
			added = append(added, recs...)
			isBehind(t, l, 8, len(added))
			has(t, d, wal.Name(8), segment(4, base, added...), 1+len(base)+len(added))
			isRead(t, d, 8, 4, append(slices.Clone(base), added...), true)
		}
	}
}

// TestLogsSideBySide: on one disk and on two, each knows its own.
func TestLogsSideBySide(t *testing.T) {
	d, u := disk.New(), disk.New()
	a, b, c := begin(t, d, 1, 5, s), begin(t, d, 2, 6), begin(t, u, 1, 7)
	are(t, api.OK, a.Add(state(1)), b.Add(state(2), state(3)), c.Add(states(3)...), a.Add(state(4)))
	isBehind(t, a, 1, 2)
	isBehind(t, b, 2, 2)
	isBehind(t, c, 1, 3)
	isRead(t, d, 1, 5, []api.Rec{s, state(1), state(4)}, true)
	isRead(t, d, 2, 6, []api.Rec{state(2), state(3)}, true)
	isRead(t, u, 1, 7, states(3), true)
}

func TestErrorsOfBegin(t *testing.T) {
	bad := []api.Rec{{}}
	d := disk.New()
	begin(t, d, 1, 0)
	// Several errors at once: nil, then down, then there, then no record.
	isNoLog(t, api.ErrNil, nil, nil, 1, bad)
	isNoLog(t, api.ErrNil, nil, &table, 1, bad)
	isNoLog(t, api.ErrNil, d, nil, 1, bad)
	isNoLog(t, api.ErrThere, d, &table, 1, bad)
	isNoLog(t, api.ErrArg, d, &table, 2, bad)
	d.Crash(api.Crash{})
	isNoLog(t, api.ErrNil, d, nil, 1, bad)
	isNoLog(t, api.ErrNil, d, nil, 2, nil)
	isNoLog(t, api.ErrDown, d, &table, 1, bad)
	isNoLog(t, api.ErrDown, d, &table, 2, bad)
	isNoLog(t, api.ErrDown, d, &table, 2, nil)
	d.Start()
	isNoLog(t, api.ErrThere, d, &table, 1, bad)
	areSegments(t, d, 1)
	// A disk that New did not create is not nil, but down.
	isNoLog(t, api.ErrDown, new(disk.Disk), &table, 1, nil)
	isNoLog(t, api.ErrNil, new(disk.Disk), nil, 1, nil)
}

func TestErrorsOfAdd(t *testing.T) {
	d := disk.New()
	l := begin(t, d, 1, 0, s)
	are(t, api.OK, l.Add(s))
	d.Crash(api.Crash{})
	for range 2 {
		are(t, api.ErrDown, l.Add(), l.Add(s), l.Add(api.Rec{}), l.Add(s, api.Rec{Kind: 9}))
		isBehind(t, l, 1, 1)
	}
	has(t, d, wal.Name(1), segment(0, []api.Rec{s}, s), 3)
	d.Start()
	are(t, api.OK, l.Add())
	are(t, api.ErrArg, l.Add(api.Rec{}))
	are(t, api.OK, l.Add(s))
	isBehind(t, l, 1, 2)
	has(t, d, wal.Name(1), segment(0, []api.Rec{s}, s, s), 4)
}

func TestNoLog(t *testing.T) {
	for _, l := range []*wal.Log{nil, {}, new(wal.Log)} {
		for range 2 {
			are(t, api.ErrNil, l.Add(), l.Add(s), l.Add(api.Rec{}), l.Add(states(40)...))
			isBehind(t, l, 0, 0)
		}
	}
}

// TestALogWhoseFileIsAway: it appends all the same, and so creates a file without a head.
func TestALogWhoseFileIsAway(t *testing.T) {
	d := disk.New()
	l := begin(t, d, 1, 3, s)
	are(t, api.OK, l.Add(s), d.Rename(wal.Name(1), wal.Name(4)))
	isBehind(t, l, 1, 1)
	are(t, api.OK, l.Add())
	areSegments(t, d, 4)
	are(t, api.OK, l.Add(state(1), state(2)))
	isBehind(t, l, 1, 3)
	areSegments(t, d, 1, 4)
	has(t, d, wal.Name(1), rows(states(2)...), 2)
	isRead(t, d, 1, 0, nil, false)
	isRead(t, d, 4, 3, []api.Rec{s, s}, true)
	// Deleted, and begun again by another log: both continue the segment of that name.
	are(t, api.OK, d.Delete(wal.Name(1)))
	isNotRead(t, api.ErrNone, d, &table, 1)
	other := begin(t, d, 1, 9)
	are(t, api.OK, l.Add(state(1)), other.Add(state(2)), l.Add(state(3)))
	isBehind(t, l, 1, 5)
	isBehind(t, other, 1, 1)
	isRead(t, d, 1, 9, states(3), true)
	// Another file is renamed to its name.
	are(t, api.OK, d.Rename(wal.Name(4), wal.Name(1)), l.Add(state(8)))
	isRead(t, d, 1, 3, []api.Rec{s, s, state(8)}, true)
	// A file that is no segment.
	are(t, api.OK, d.Delete(wal.Name(1)), d.Append(wal.Name(1), "x"), l.Add(s))
	has(t, d, wal.Name(1), "x"+rows(s), 2)
	isRead(t, d, 1, 0, nil, false)
}

// TestArgumentsAreNotChanged: nor kept; nor is the room behind them.
func TestArgumentsAreNotChanged(t *testing.T) {
	bytes := []byte("some bytes")
	base := []api.Rec{s, data(1, lying(bytes[:4])), s, s, s}
	more := []api.Rec{data(2, lying(bytes[5:])), s, s, s}
	baseWas, moreWas := slices.Clone(base), slices.Clone(more)
	tab := sum.Make()
	d := disk.New()
	l, e := wal.Begin(d, &tab, 1, 0, base[:2])
	are(t, api.OK, e, l.Add(more[:1]...))
	if !slices.Equal(base, baseWas) || !slices.Equal(more, moreWas) || tab != table {
		t.Fatalf("%v, %v, or the table changed", base, more)
	}
	copy(bytes, "???? ?????")
	clear(base)
	clear(more)
	has(t, d, wal.Name(1), segment(0, []api.Rec{s, data(1, "some")}, data(2, "bytes")), 4)
	// The table is the caller's: what it comes to be later is nothing to the log.
	clear(tab[:])
	are(t, api.OK, l.Add(s))
	isRead(t, d, 1, 0, []api.Rec{s, data(1, "some"), data(2, "bytes"), s}, true)
}
