package stable_test

import (
	"slices"
	"strings"
	"testing"

	"wapentake/api"
	"wapentake/disk"
	"wapentake/stable"
	"wapentake/sum"
	"wapentake/wal"
)

// TestChapterExamples: those of the chapter's table.
func TestChapterExamples(t *testing.T) {
	d := disk.New()
	s, k := open(t, d)
	isKept(t, k, stable.Kept{})
	are(t, api.OK, s.Save(state(1, 2), noop(1, 1)))
	lists(t, d, "seg.00000001")
	are(t, api.OK, s.Cut(full(1, 1)))
	are(t, api.ErrArg, s.Save(noop(1, 1)))
	are(t, api.OK, s.Save(noop(2, 1)))
	s, k = open(t, d)
	isKept(t, k, stable.Kept{Term: 1, Vote: 2, Snap: full(1, 1), Entries: entriesOf(noops(2, 1))})
	lists(t, d, "seg.00000003", "snap.00000001")
	are(t, api.OK, s.Save(noop(2, 2)))
	are(t, api.ErrArg, s.Save(noop(4, 2)))
	are(t, api.ErrOld, s.Cut(full(1, 1)))
	are(t, api.OK, s.Cut(full(9, 5)))
	isKept(t, s.Kept(), stable.Kept{Term: 1, Vote: 2, Snap: full(9, 5)})
}

func TestOpenOfWhatCannotBeOpened(t *testing.T) {
	d := disk.New()
	isNotOpen(t, api.ErrNil, nil, &table)
	isNotOpen(t, api.ErrNil, nil, nil)
	isNotOpen(t, api.ErrNil, d, nil)
	// A disk that New did not create is not nil, but has no power.
	isNotOpen(t, api.ErrDown, &disk.Disk{}, &table)
	isNotOpen(t, api.ErrNil, &disk.Disk{}, nil)
	d.Fuse(9)
	d.Crash(api.Crash{})
	isNotOpen(t, api.ErrNil, d, nil)
	isNotOpen(t, api.ErrDown, d, &table)
	d.Start()
	lists(t, d)
	if d.Fused() != 9 {
		t.Fatalf("a fuse of %d", d.Fused())
	}
	open(t, d)
	lists(t, d, "seg.00000001")
}

// TestTheFilesOfAStore: byte by byte, record by record.
func TestTheFilesOfAStore(t *testing.T) {
	has := func(d *disk.Disk, name string, rows ...string) {
		t.Helper()
		if got := contentsOf(d, name); got != strings.Join(rows, "") {
			t.Fatalf("%q has %.300x, not %.300x", name, got, strings.Join(rows, ""))
		}
		if all, synced := d.Records(name); all != len(rows) || synced != len(rows) {
			t.Fatalf("%q has %d records, %d of them synced, not %d", name, all, synced, len(rows))
		}
	}
	d := disk.New()
	s, _ := open(t, d)
	has(d, "seg.00000001", segmentByHand(0, []api.Rec{state(0, 0)})...)
	// The text of the head, and that of the state after it.
	if got := contentsOf(d, "seg.00000001"); got != rowByHand("\x01\x01\x00")+rowByHand("\x02\x00\x00") {
		t.Fatalf("%x", got)
	}
	recs := []api.Rec{state(300, 5), data(1, 2, strings.Repeat("x", 130)), noop(2, 300), noop(3, 300)}
	are(t, api.OK, s.Save(recs...))
	has(d, "seg.00000001", append(segmentByHand(0, []api.Rec{state(0, 0)}), rowsByHand(recs)...)...)
	are(t, api.OK, s.Cut(full(2, 300)))
	lists(t, d, "seg.00000002", "snap.00000002")
	has(d, "seg.00000002", segmentByHand(2, []api.Rec{state(300, 5), noop(3, 300)})...)
	has(d, "snap.00000002", snapByHand(full(2, 300))...)
	// Index, Term and Members in groups: 2, 300, 255.
	if got := contentsOf(d, "snap.00000002"); !strings.HasPrefix(got, rowByHand("\x02\x82\x2c\x81\x7f")+rowByHand("a")+rowByHand("")) {
		t.Fatalf("%x", got)
	}
	are(t, api.OK, s.Save(noop(4, 301)), s.Save(state(301, 0), noop(4, 302)))
	open(t, d)
	lists(t, d, "seg.00000003", "snap.00000002")
	has(d, "seg.00000003", segmentByHand(2, []api.Rec{state(301, 0), noop(3, 300), noop(4, 302)})...)
}

// TestFilesOfOtherNames: they are not touched, by any call.
func TestFilesOfOtherNames(t *testing.T) {
	names := []string{
		"a", "seg", "seg.", "seg.1", "seg.0000001", "seg.000000001", "seg.00000001x", "xseg.00000001", "seg.0000000x", "seg.+0000001", "seg.-0000001", "Seg.00000001", "seg.00000001.old", "seg_00000001", "seg.18446744073709551616",
		"snap", "snap.", "snap.1", "snap.0000009", "snap.00000009x", "xsnap.00000009", "snap.0000000x", "snap.+0000009", "Snap.00000009", "snap.00000009.old", "snapseg.00000001", "seg.snap.00000001", "00000001", "zz",
	}
	d := disk.New()
	for i, name := range names {
		put(t, d, name, segmentByHand(0, []api.Rec{state(9, 9)})...)
		if i%2 == 0 {
			are(t, api.OK, d.Append(name, "x"))
		}
	}
	before := d.Twin()
	s, k := open(t, d)
	isKept(t, k, stable.Kept{})
	are(t, api.OK, s.Save(noops(1, 1, 1, 1)...), s.Cut(full(2, 1)), s.Save(manyStates(32)...), s.Cut(full(3, 1)))
	s, k = open(t, d)
	isKept(t, k, stable.Kept{Term: 3, Vote: 1, Snap: full(3, 1)})
	for _, name := range []string{"seg.00000005", "snap.00000003"} {
		are(t, api.OK, d.Delete(name))
	}
	areEqual(t, d, before)
}

// TestSegmentsOfWhichNoneCounts: the initial state is found, and they are deleted.
func TestSegmentsOfWhichNoneCounts(t *testing.T) {
	base := []api.Rec{state(1, 1), noop(1, 1)}
	rows := segmentByHand(0, base)
	d := disk.New()
	put(t, d, segName(3), rows[0])
	put(t, d, segName(4), rows[:2]...)
	put(t, d, segName(5), rows[0]+rows[1]+rows[2][:len(rows[2])-1])
	put(t, d, segName(6), "x")
	put(t, d, segName(7), rows[1:]...)
	are(t, api.OK, d.Append(segName(9), rows[0]))
	d = crashed(d, 0, 2)
	s, k := open(t, d)
	isKept(t, k, stable.Kept{})
	lists(t, d, segName(10))
	are(t, api.OK, s.Save(base...))
	_, k = open(t, d)
	isKept(t, k, stable.Kept{Term: 1, Vote: 1, Entries: entriesOf(base[1:])})
	lists(t, d, segName(11))
}

// TestTheNewestSegmentThatCounts: of several, whichever of them count; the newest is that of the greatest number.
func TestTheNewestSegmentThatCounts(t *testing.T) {
	numbers := []uint64{1, 2, 9, 10, 99999999, 100000000, 123456789012, 1 << 40}
	for counting := range 1 << len(numbers) {
		d := disk.New()
		want := stable.Kept{}
		for i, n := range numbers {
			rows := segmentByHand(0, []api.Rec{state(n, uint8(i))})
			if counting>>i&1 == 1 {
				put(t, d, segName(n), append(rows, rowsByHand(noops(1, n))...)...)
				want = stable.Kept{Term: n, Vote: uint8(i), Entries: entriesOf(noops(1, n))}
			} else {
				put(t, d, segName(n), rows[0])
			}
		}
		_, k := open(t, d)
		isKept(t, k, want)
		lists(t, d, "seg.1099511627777")
	}
}

// TestAnyBase: a segment counts with more records than its base has, and with a base of none.
func TestAnyBase(t *testing.T) {
	for _, x := range []struct {
		base, more []api.Rec
		want       stable.Kept
	}{
		{},
		{nil, []api.Rec{state(3, 2)}, stable.Kept{Term: 3, Vote: 2}},
		{[]api.Rec{noop(1, 1), state(2, 1), state(4, 0)}, nil, stable.Kept{Term: 4, Entries: entriesOf(noops(1, 1))}},
		{[]api.Rec{state(2, 1), noop(1, 1), noop(2, 1)}, []api.Rec{noop(2, 4), noop(1, 7), state(9, 9)}, stable.Kept{Term: 9, Vote: 9, Entries: entriesOf(noops(1, 7))}},
	} {
		d := disk.New()
		l, e := wal.Begin(d, &table, 6, 0, x.base)
		are(t, api.OK, e, l.Add(x.more...))
		_, k := open(t, d)
		isKept(t, k, x.want)
		lists(t, d, segName(7))
		if got := contentsOf(d, segName(7)); got != strings.Join(segmentByHand(0, baseByHand(x.want)), "") {
			t.Fatalf("%x", got)
		}
	}
}

// TestSnapshotFilesThatBelongToNone: all are deleted but that of the current snapshot, whatever is in them.
func TestSnapshotFilesThatBelongToNone(t *testing.T) {
	d := disk.New()
	s, _ := open(t, d)
	are(t, api.OK, s.Save(noops(1, 1, 1)...))
	put(t, d, snapName(1), snapByHand(full(1, 1))...)
	put(t, d, snapName(7), "x")
	_, k := open(t, d)
	isKept(t, k, stable.Kept{Entries: entriesOf(noops(1, 1, 1))})
	lists(t, d, segName(2))
	for _, index := range []uint64{5, 99999999, 100000000, 1 << 39} {
		s, _ = open(t, d)
		are(t, api.OK, s.Cut(full(index, 1)))
		for _, other := range []uint64{1, 4, 6, index - 1, index + 1, 1 << 40} {
			put(t, d, snapName(other), snapByHand(full(other, 1))...)
		}
		_, k = open(t, d)
		isKept(t, k, stable.Kept{Snap: full(index, 1)})
		if got := d.List()[1:]; !slices.Equal(got, []string{snapName(index)}) {
			t.Fatalf("files %q", got)
		}
		_, k = open(t, d)
		isKept(t, k, stable.Kept{Snap: full(index, 1)})
	}
}

// TestDeletionsByAscendingNames: each fuse stops ahead of one of them, with the state already in the new segment.
func TestDeletionsByAscendingNames(t *testing.T) {
	d := disk.New()
	s, _ := open(t, d)
	are(t, api.OK, s.Save(noops(1, 1, 1)...), s.Cut(full(2, 1)))
	for _, n := range []uint64{1, 7, 8, 99999999, 100000000, 20, 1 << 40} {
		put(t, d, segName(n), "x")
	}
	for _, index := range []uint64{1, 3, 99999999, 100000000, 10} {
		put(t, d, snapName(index), "x")
	}
	put(t, d, "sega", "x")
	put(t, d, "zz", "x")
	names := d.List()
	stale := []string{segName(1), segName(2), segName(7), segName(8), segName(20), segName(100000000), segName(1 << 40), segName(99999999), snapName(1), snapName(3), snapName(10), snapName(100000000), snapName(99999999)}
	const begin = 3 // a head, a state, a Sync
	for fuse := 1; fuse <= begin+len(stale)+1; fuse++ {
		u := d.Twin()
		u.Fuse(fuse)
		deleted := max(min(fuse-1-begin, len(stale)), 0)
		if fuse > begin+len(stale) {
			open(t, u)
		} else {
			isNotOpen(t, api.ErrDown, u, &table)
		}
		want := slices.DeleteFunc(slices.Clone(names), func(name string) bool { return slices.Contains(stale[:deleted], name) })
		if fuse > 1 {
			want = append(want, segName(1<<40+1))
			slices.Sort(want)
		}
		lists(t, u, want...)
		_, k := open(t, crashed(u, 0, 1))
		isKept(t, k, stable.Kept{Snap: full(2, 1)})
	}
}

// TestFilesThatNoStoreWrote: a snapshot that is not there, or is none, records that do not suit. Nothing is promised about them, but that every call ends, and that what is found is there from then on.
func TestFilesThatNoStoreWrote(t *testing.T) {
	good := snapByHand(full(5, 2))
	head := func(groups string) []string { return append([]string{rowByHand(groups)}, good[1:]...) }
	for _, rows := range [][]string{nil, good[:1], good[:5], {"x"}, {"x" + good[0], good[1]}, good[1:], snapByHand(full(6, 2)), head("\x05\x02"), head("\x05\x02\x82\x00"), head("\x05\x02\x07\x07"), head(""), head("\x80\x05\x02\x07"), append(good[:5:5], good[5][:1]), append(good[:6:6], good...)} {
		for _, recs := range [][]api.Rec{{state(8, 4), noop(6, 2)}, {state(8, 4)}, {noop(9, 1)}, nil} {
			d := disk.New()
			put(t, d, segName(3), segmentByHand(0, []api.Rec{state(7, 3)})...)
			put(t, d, segName(4), segmentByHand(5, recs)...)
			if rows != nil {
				put(t, d, snapName(5), rows...)
			}
			opensTwice(t, d)
		}
	}
	for _, recs := range [][]api.Rec{{noop(2, 1)}, {state(8, 4), noop(1, 2), noop(2, 1)}, {noop(1, 1), noop(3, 1)}} {
		d := disk.New()
		put(t, d, segName(4), segmentByHand(0, recs)...)
		opensTwice(t, d)
	}
	// There is no segment above this one.
	d := disk.New()
	put(t, d, segName(1<<64-1), segmentByHand(0, []api.Rec{state(7, 3)})...)
	opensTwice(t, d)
}

// opensTwice demands that a disk that can be opened has the same state if it is opened again.
func opensTwice(t *testing.T, d *disk.Disk) {
	t.Helper()
	if _, k, e := stable.Open(d, &table); e == api.OK {
		_, again := open(t, d)
		isKept(t, again, k)
	}
}

// TestFilesOfOneRecord: what is read goes by the bytes, however they were appended.
func TestFilesOfOneRecord(t *testing.T) {
	d := disk.New()
	put(t, d, segName(4), strings.Join(segmentByHand(5, []api.Rec{state(8, 4), noop(6, 2)}), ""))
	put(t, d, snapName(5), strings.Join(snapByHand(full(5, 2)), ""))
	_, k := open(t, d)
	isKept(t, k, stable.Kept{Term: 8, Vote: 4, Snap: full(5, 2), Entries: entriesOf(noops(6, 2))})
}

// TestOpenBehindOpen: each has the same state, in the next segment.
func TestOpenBehindOpen(t *testing.T) {
	d := disk.New()
	want := stable.Kept{}
	number := uint64(0)
	for n := range 40 {
		s, k := open(t, d)
		number++
		isKept(t, k, want)
		files := []string{segName(number)}
		if want.Snap.Index > 0 {
			files = append(files, snapName(want.Snap.Index))
		}
		lists(t, d, files...)
		switch n {
		case 5:
			are(t, api.OK, s.Save(state(4, 2), data(1, 1, "x"), data(2, 3, "y")))
		case 9:
			are(t, api.OK, s.Cut(full(1, 1)))
			number++
		}
		want = s.Kept()
	}
}

// TestOtherTables: nothing is promised about them, but that every call ends.
func TestOtherTables(t *testing.T) {
	for _, other := range []sum.Table{{}, {1: 1, 255: 1 << 31}} {
		d := disk.New()
		s, _, _ := stable.Open(d, &other)
		s.Save(noops(1, 1, 1)...)
		s.Cut(full(1, 1))
		s.Save(manyStates(40)...)
		s.Kept()
		stable.Open(d, &other)
		stable.Open(d, &table)
	}
}

func TestATableIsNotChanged(t *testing.T) {
	mine := sum.Make()
	d := disk.New()
	s, _, e := stable.Open(d, &mine)
	are(t, api.OK, e, s.Save(noops(1, 1)...), s.Cut(full(1, 1)))
	_, _, e = stable.Open(d, &mine)
	are(t, api.OK, e)
	if mine != sum.Make() {
		t.Fatal("it is")
	}
}
