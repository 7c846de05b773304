package stable_test

import (
	"slices"
	"strings"
	"testing"

	"wapentake/api"
	"wapentake/disk"
	"wapentake/stable"
)

func TestANilStore(t *testing.T) {
	var none *stable.Store
	for _, s := range []*stable.Store{none, {}} {
		are(t, api.ErrNil, s.Save(), s.Save(state(1, 1)), s.Save(api.Rec{}), s.Cut(full(1, 1)), s.Cut(api.Snap{}))
		isKept(t, s.Kept(), stable.Kept{})
	}
}

// TestErrorsOrder: the power is asked for ahead of the arguments.
func TestErrorsOrder(t *testing.T) {
	p := opened(t, saving(state(4, 2), noop(1, 1)))
	k := p.s.Kept()
	wrong := []call{saving(api.Rec{}), saving(noop(3, 1)), saving(noop(2, 1), noop(4, 1)), cutting(api.Snap{}), cutting(full(0, 9))}
	right := []call{saving(), saving(noop(2, 1)), cutting(full(1, 1)), cutting(full(9, 9))}
	for _, x := range wrong {
		if e := p.do(t, x); e != api.ErrArg && e != api.ErrOld {
			t.Fatalf("%v returned %d", x, e)
		}
	}
	// While the power is off.
	p.d.Crash(api.Crash{})
	p.m.d.Crash(api.Crash{})
	for _, x := range append(wrong, right...) {
		are(t, api.ErrDown, p.do(t, x))
	}
	isKept(t, p.s.Kept(), k)
	// Lost in a call: the store is of no use any more, whatever the disk says.
	for _, x := range []call{saving(noop(3, 1)), cutting(full(1, 1))} {
		q := opened(t, saving(state(4, 2), noop(1, 1), noop(2, 1)))
		q.fuse(2)
		are(t, api.ErrDown, q.do(t, x))
		k := q.s.Kept()
		for _, y := range append(wrong, right...) {
			are(t, api.ErrDown, q.do(t, y))
		}
		q.d.Start()
		q.m.d.Start()
		for _, y := range append(wrong, right...) {
			are(t, api.ErrDown, q.do(t, y))
		}
		isKept(t, q.s.Kept(), k)
		q.does(t, opening(), saving(state(9, 9)))
	}
}

// TestCallsThatFailDoNothing: no operation is done, and no fuse burns.
func TestCallsThatFailDoNothing(t *testing.T) {
	p := opened(t, saving(state(4, 2), noop(1, 1), noop(2, 2)), cutting(full(1, 1)))
	before, k := p.d.Twin(), p.s.Kept()
	p.fuse(1)
	before.Fuse(1)
	for _, r := range append(noRecords(), noop(1, 9), noop(2, 0), noop(5, 9), noop(3, 1)) {
		are(t, api.ErrArg, p.do(t, saving(r)), p.do(t, saving(state(5, 5), noop(3, 2), r)), p.do(t, saving(r, state(5, 5))))
	}
	are(t, api.ErrOld, p.do(t, cutting(full(1, 1))), p.do(t, cutting(full(1, 2))), p.do(t, cutting(api.Snap{})))
	are(t, api.OK, p.do(t, saving()), p.s.Save([]api.Rec{}...))
	areEqual(t, p.d, before)
	isKept(t, p.s.Kept(), k)
}

// TestEachSave: many kinds of records, one call behind the other; each leaves what a next Open finds.
func TestEachSave(t *testing.T) {
	p := opened(t)
	for _, recs := range [][]api.Rec{
		{state(1, 2)}, {noop(1, 1)}, {data(2, 1, "x")}, {data(2, 1, "y")}, {data(2, 2, "z"), state(2, 0), noop(3, 2)}, {noop(1, 1)}, {noop(1, 5)},
		{data(2, 5, strings.Repeat("\x00", 200))}, {state(0, 0)}, nil, {noop(3, 1<<40)}, {state(1<<40, 255)}, noops(2, 6, 6, 6, 7, 7, 8), {noop(5, 6)},
	} {
		p.does(t, saving(recs...))
		q := p.twin()
		q.does(t, opening())
		isKept(t, q.s.Kept(), p.s.Kept())
		q.does(t, saving(state(1, 1)))
	}
}

// TestAnotherSegmentBegins: at 32 records after the base of one, not at 31; a Save that goes beyond is in the old one as a whole.
func TestAnotherSegmentBegins(t *testing.T) {
	for _, x := range []struct {
		saves []int
		last  uint64 // the segment that there is at the end
		rows  int    // and how many rows it has, behind a head and a base of one record
	}{
		{[]int{31}, 1, 31}, {[]int{32}, 2, 0}, {[]int{33}, 2, 0}, {[]int{31, 1}, 2, 0}, {[]int{31, 0}, 1, 31}, {[]int{31, 31}, 2, 0}, {[]int{31, 100}, 2, 0}, {[]int{100}, 2, 0}, {[]int{1, 30}, 1, 31}, {[]int{1, 31}, 2, 0},
		{[]int{32, 31}, 2, 31}, {[]int{32, 31, 1}, 3, 0}, {[]int{32, 32, 32}, 4, 0}, {[]int{64}, 2, 0}, {slices.Repeat([]int{1}, 31), 1, 31}, {slices.Repeat([]int{1}, 32), 2, 0}, {slices.Repeat([]int{1}, 100), 4, 4}, {slices.Repeat([]int{10}, 10), 3, 20},
	} {
		p := opened(t)
		for _, n := range x.saves {
			p.does(t, saving(manyStates(n)...))
		}
		lists(t, p.d, segName(x.last))
		if all, synced := p.d.Records(segName(x.last)); all != x.rows+2 || synced != all {
			t.Fatalf("%v: %d records, %d of them synced", x.saves, all, synced)
		}
		p.does(t, opening())
		isKept(t, p.s.Kept(), stable.Kept{Term: 3, Vote: 1})
		lists(t, p.d, segName(x.last+1))
	}
}

// TestRecordsAfterTheBaseAreCountedAnew: by an Open and by a Cut, and neither the base's nor records of calls that failed count.
func TestRecordsAfterTheBaseAreCountedAnew(t *testing.T) {
	p := opened(t, saving(manyStates(31)...), opening(), saving(manyStates(31)...), saving(noops(1, 1)...), saving(manyStates(31)...))
	lists(t, p.d, segName(3))
	p.does(t, cutting(full(1, 1)), saving(noops(2, slices.Repeat([]uint64{1}, 31)...)...))
	lists(t, p.d, segName(4), snapName(1))
	are(t, api.ErrArg, p.do(t, saving(append(manyStates(40), api.Rec{})...)))
	p.does(t, opening(), saving(manyStates(31)...))
	lists(t, p.d, segName(5), snapName(1))
	p.does(t, saving(state(1, 1)))
	lists(t, p.d, segName(6), snapName(1))
	if len(p.s.Kept().Entries) != 31 {
		t.Fatal(brief(p.s.Kept()))
	}
}

// TestOperationsOfEachCall: how many they are, for a fuse to burn at.
func TestOperationsOfEachCall(t *testing.T) {
	p := opened(t)
	for _, x := range []struct {
		c    call
		want int
	}{
		{opening(), 4}, {saving(), 0}, {saving(state(1, 1)), 2}, {saving(noops(1, 1, 1, 1)...), 4}, {saving(manyStates(27)...), 28},
		// A record and a Sync; a head, a state, three entries and a Sync; a segment that is deleted.
		{saving(state(1, 1)), 2 + 6 + 1}, {saving(manyStates(31)...), 32}, {saving(manyStates(2)...), 3 + 6 + 1},
		// Six rows and a Sync, a head, a state, two entries and a Sync, a segment that is deleted; later on, a snapshot too.
		{cutting(full(1, 1)), 7 + 5 + 1}, {cutting(full(3, 1)), 7 + 3 + 2}, {opening(), 4}, {cutting(full(9, 1)), 7 + 3 + 2}, {saving(noops(10, 1)...), 2}, {opening(), 5},
	} {
		if got := p.operations(t, x.c); got != x.want {
			t.Fatalf("%v consists of %d operations, not %d", x.c, got, x.want)
		}
	}
}

// TestEachCut: one behind the other, at each place; each leaves what a next Open finds.
func TestEachCut(t *testing.T) {
	p := opened(t, saving(state(4, 2)), saving(noops(1, 1, 1, 2, 2, 4, 4, 4)...))
	for _, x := range []struct {
		snap api.Snap
		left []api.Entry
	}{
		{full(1, 1), entriesOf(noops(2, 1, 2, 2, 4, 4, 4))}, {bare(3, 2), entriesOf(noops(4, 2, 4, 4, 4))}, {full(5, 4), entriesOf(noops(6, 4, 4))}, {full(6, 5), nil},
		{full(7, 4), nil}, {bare(99999999, 3), nil}, {full(100000000, 9), nil}, {full(1<<39, 1<<39), nil},
	} {
		p.does(t, cutting(x.snap))
		want := stable.Kept{Term: 4, Vote: 2, Snap: x.snap, Entries: x.left}
		isKept(t, p.s.Kept(), want)
		lists(t, p.d, segName(p.m.n), snapName(x.snap.Index))
		for _, old := range []uint64{0, 1, x.snap.Index - 1, x.snap.Index} {
			are(t, api.ErrOld, p.do(t, cutting(full(old, 9))))
		}
		q := p.twin()
		q.does(t, opening())
		isKept(t, q.s.Kept(), want)
	}
	p.does(t, saving(noops(1<<39+1, 1<<40, 1<<40)...), cutting(full(1<<39+1, 1<<40)), opening())
	isKept(t, p.s.Kept(), stable.Kept{Term: 4, Vote: 2, Snap: full(1<<39+1, 1<<40), Entries: entriesOf(noops(1<<39+2, 1<<40))})
}

// TestSnapshotsOfAnyContents: sections of any bytes and lengths, and any members.
func TestSnapshotsOfAnyContents(t *testing.T) {
	index := uint64(0)
	for _, n := range []int{0, 1, 2, 127, 128, 129, 16383, 16384, 1 << 17} {
		for _, c := range []string{"\x00", "\x01", "\x7f", "\x80", "\xff"} {
			for at := range api.Queues {
				index++
				snap := api.Snap{Index: index, Term: index % 7, Members: uint8(index)}
				snap.Sections[at] = strings.Repeat(c, n)
				snap.Sections[(at+3)%api.Queues] = "z"
				d := disk.New()
				s, _ := open(t, d)
				are(t, api.OK, s.Cut(snap))
				_, k := open(t, d)
				isKept(t, k, stable.Kept{Snap: snap})
			}
		}
	}
	for members := range 256 {
		d := disk.New()
		s, _ := open(t, d)
		are(t, api.OK, s.Cut(api.Snap{Index: 1, Members: uint8(members)}))
		_, k := open(t, d)
		isKept(t, k, stable.Kept{Snap: api.Snap{Index: 1, Members: uint8(members)}})
	}
}

// TestStrangersOnTheDisk: files that come or go behind an Open. Nothing is promised about them, but that every call ends.
func TestStrangersOnTheDisk(t *testing.T) {
	for _, come := range [][]string{nil, {snapName(2)}, {segName(3)}, {segName(4)}, {segName(9)}, {snapName(2), segName(3)}} {
		for _, goes := range []string{"", segName(2), snapName(1)} {
			d := disk.New()
			s, _ := open(t, d)
			are(t, api.OK, s.Save(noops(1, 1, 1, 1)...), s.Cut(full(1, 1)))
			for _, name := range come {
				put(t, d, name, "x")
			}
			d.Delete(goes)
			s.Cut(full(2, 1))
			s.Save(manyStates(40)...)
			s.Save(noop(4, 1))
			s.Cut(full(2, 2))
			s.Cut(full(3, 1))
			s.Kept()
			opensTwice(t, d)
		}
	}
}

// TestAnswersShareNoMemory: neither with arguments nor with what is stored nor with each other.
func TestAnswersShareNoMemory(t *testing.T) {
	body, section := []byte("a body of an entry"), []byte("a section")
	snap := api.Snap{Index: 1, Term: 1, Sections: [api.Queues]string{3: lying(section)}}
	recs := []api.Rec{data(1, 1, lying(body)), data(2, 1, lying(body)), data(3, 1, lying(body))}
	d := disk.New()
	s, _ := open(t, d)
	are(t, api.OK, s.Save(recs...))
	taken := append(stringsOf(s.Kept()), lying(body))
	are(t, api.OK, s.Cut(snap))
	taken = append(taken, lying(section))
	clear(recs)
	check := func(k stable.Kept) {
		t.Helper()
		shareNothing(t, k, taken...)
		taken = append(taken, stringsOf(k)...)
		clear(k.Entries[:cap(k.Entries)])
	}
	for range 3 {
		check(s.Kept())
	}
	clear(body)
	clear(section)
	want := stable.Kept{Snap: api.Snap{Index: 1, Term: 1, Sections: [api.Queues]string{3: "a section"}}, Entries: []api.Entry{data(2, 1, "a body of an entry").Entry, data(3, 1, "a body of an entry").Entry}}
	isKept(t, s.Kept(), want)
	s, k, e := stable.Open(d, &table)
	are(t, api.OK, e)
	isKept(t, k, want)
	check(k)
	check(s.Kept())
	isKept(t, s.Kept(), want)
	// What was answered stays as it was, whatever is saved.
	k = s.Kept()
	are(t, api.OK, s.Save(noop(2, 9)), s.Save(noop(3, 9), noop(4, 9)), s.Cut(full(3, 9)))
	isKept(t, k, want)
}
