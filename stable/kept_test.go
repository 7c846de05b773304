package stable_test

import (
	"math"
	"math/rand"
	"slices"
	"strings"
	"testing"

	"wapentake/api"
	"wapentake/disk"
	"wapentake/stable"
	"wapentake/wal"
)

// goesTo demands that the state after records is this one.
func goesTo(t *testing.T, k stable.Kept, recs []api.Rec, want stable.Kept) {
	t.Helper()
	got, e := stable.After(k, recs...)
	are(t, api.OK, e)
	isKept(t, got, want)
}

// suitsNot demands that some of the records does not suit.
func suitsNot(t *testing.T, k stable.Kept, recs ...api.Rec) {
	t.Helper()
	if got, e := stable.After(k, recs...); e != api.ErrArg || !equal(got, stable.Kept{}) {
		t.Fatalf("After %v of %s returned %s, %d", recs, brief(k), brief(got), e)
	}
}

func TestAfterWithoutRecords(t *testing.T) {
	for _, k := range smallStates() {
		goesTo(t, k, nil, k)
		goesTo(t, k, []api.Rec{}, k)
	}
}

func TestAfterAState(t *testing.T) {
	k := stable.Kept{Term: 5, Vote: 2, Snap: full(3, 2), Entries: entriesOf(noops(4, 2, 5))}
	for _, term := range []uint64{0, 1, 4, 5, 6, 1 << 32, 1 << 40} {
		for _, vote := range []uint8{0, 1, 2, 5, 6, 255} {
			goesTo(t, k, []api.Rec{state(term, vote)}, stable.Kept{Term: term, Vote: vote, Snap: k.Snap, Entries: k.Entries})
		}
	}
	goesTo(t, k, []api.Rec{state(9, 1), state(3, 3), state(4, 0)}, stable.Kept{Term: 4, Snap: k.Snap, Entries: k.Entries})
}

// TestAfterAnEntry: behind a snapshot at 3 of the term 2 and entries of the terms 2, 4, 4, at each index and of each term.
func TestAfterAnEntry(t *testing.T) {
	k := stable.Kept{Term: 5, Vote: 2, Snap: full(3, 2), Entries: entriesOf(noops(4, 2, 4, 4))}
	with := func(terms ...uint64) stable.Kept {
		return stable.Kept{Term: 5, Vote: 2, Snap: k.Snap, Entries: entriesOf(noops(4, terms...))}
	}
	for _, x := range []struct {
		index, term uint64
		left        []uint64 // nil if it does not suit
	}{
		{0, 4, nil}, {1, 4, nil}, {2, 4, nil}, {3, 1, nil}, {3, 2, nil}, {3, 9, nil},
		{4, 1, nil}, {4, 2, []uint64{2}}, {4, 3, []uint64{3}}, {4, 9, []uint64{9}},
		{5, 1, nil}, {5, 2, []uint64{2, 2}}, {5, 3, []uint64{2, 3}}, {5, 4, []uint64{2, 4}}, {5, 9, []uint64{2, 9}},
		{6, 2, nil}, {6, 3, nil}, {6, 4, []uint64{2, 4, 4}}, {6, 5, []uint64{2, 4, 5}},
		{7, 3, nil}, {7, 4, []uint64{2, 4, 4, 4}}, {7, 5, []uint64{2, 4, 4, 5}}, {7, 1 << 40, []uint64{2, 4, 4, 1 << 40}},
		{8, 4, nil}, {8, 9, nil}, {9, 9, nil}, {1 << 32, 9, nil}, {1 << 40, 9, nil},
	} {
		if x.left == nil {
			suitsNot(t, k, noop(x.index, x.term))
		} else {
			goesTo(t, k, noops(x.index, x.term), with(x.left...))
		}
	}
	// An entry that is there already takes its own place, and those behind it are gone.
	goesTo(t, k, noops(5, 4), with(2, 4))
	// Behind the snapshot alone.
	goesTo(t, with(), noops(4, 2), with(2))
	suitsNot(t, with(), noop(4, 1))
	suitsNot(t, with(), noop(5, 2))
	suitsNot(t, with(), noop(3, 2))
	// Terms of the state are no matter.
	goesTo(t, stable.Kept{Term: 9}, noops(1, 1), stable.Kept{Term: 9, Entries: entriesOf(noops(1, 1))})
}

func TestEachRecordMustSuitTheStateAfterThoseBeforeIt(t *testing.T) {
	k := stable.Kept{Snap: bare(3, 2), Entries: entriesOf(noops(4, 2))}
	goesTo(t, k, noops(5, 2, 2, 7), stable.Kept{Snap: k.Snap, Entries: entriesOf(noops(4, 2, 2, 2, 7))})
	goesTo(t, k, []api.Rec{noop(4, 3), state(4, 1), data(5, 3, "x"), noop(4, 2)}, stable.Kept{Term: 4, Vote: 1, Snap: k.Snap, Entries: entriesOf(noops(4, 2))})
	suitsNot(t, k, noop(6, 2), noop(5, 2))
	suitsNot(t, k, noop(5, 2), noop(7, 2))
	suitsNot(t, k, noop(5, 3), noop(6, 2))
	suitsNot(t, k, noop(5, 2), noop(4, 2), noop(6, 2))
	suitsNot(t, k, state(1, 1), noop(5, 1))
}

func TestWhatIsNoRecordSuitsNever(t *testing.T) {
	k := stable.Kept{Entries: entriesOf(noops(1, 1))}
	for _, r := range noRecords() {
		_, e := wal.Begin(disk.New(), &table, 1, 0, []api.Rec{r})
		are(t, api.ErrArg, e)
		suitsNot(t, k, r)
		suitsNot(t, k, r, noop(2, 1))
		suitsNot(t, k, noop(2, 1), state(1, 1), r)
		suitsNot(t, stable.Kept{}, r)
	}
	// One entry of each kind is a record.
	recs := []api.Rec{noop(2, 1), data(5, 3, "body")}
	for i, e := range []api.Entry{{Kind: api.EConf, Body: "\x1f"}, {Kind: api.EOper, Body: "oper"}, {Kind: api.ETick}} {
		e.Index, e.Term = uint64(3+i), 2
		recs = slices.Insert(recs, len(recs)-1, api.Rec{Kind: api.RecEntry, Entry: e})
	}
	recs[len(recs)-1].Entry.Index = 6
	goesTo(t, k, recs, stable.Kept{Entries: append(slices.Clone(k.Entries), entriesOf(recs)...)})
}

// smallStates are states of a snapshot and up to three entries, with all terms up to 3 that fit.
func smallStates() []stable.Kept {
	var all []stable.Kept
	for _, index := range []uint64{0, 1, 4, 1 << 39} {
		for term := range uint64(3) {
			first := stable.Kept{Term: term + 1, Vote: uint8(index), Snap: full(index, term)}
			all = append(all, first)
			for from, n := len(all)-1, 0; n < 3; n++ {
				to := len(all)
				for ; from < to; from++ {
					all = append(all, longer(all[from])...)
				}
			}
		}
	}
	return all
}

// longer are a state's successors by an entry of each term that fits, up to 3.
func longer(k stable.Kept) []stable.Kept {
	var all []stable.Kept
	index, term := k.Snap.Index, max(k.Snap.Term, 1)
	if n := len(k.Entries); n > 0 {
		index, term = k.Entries[n-1].Index, k.Entries[n-1].Term
	}
	for ; term <= 3; term++ {
		next := k
		next.Entries = append(slices.Clone(k.Entries), data(index+1, term, strings.Repeat("b", int(term))).Entry)
		all = append(all, next)
	}
	return all
}

// TestEveryEntryAfterSmallStates: at each index around them, of each term, and a second one behind it.
func TestEveryEntryAfterSmallStates(t *testing.T) {
	t.Parallel()
	for _, k := range smallStates() {
		for index := max(k.Snap.Index, 2) - 2; index < k.Snap.Index+6; index++ {
			for term := range uint64(5) {
				r := data(index, term, "new")
				isAsByHand(t, k, r)
				isAsByHand(t, k, r, noop(index+1, term))
				isAsByHand(t, k, r, state(7, 7), noop(max(index, 1)-1, 3))
			}
		}
	}
}

func isAsByHand(t *testing.T, k stable.Kept, recs ...api.Rec) {
	t.Helper()
	if want, ok := afterByHand(k, recs...); ok {
		goesTo(t, k, recs, want)
	} else {
		suitsNot(t, k, recs...)
	}
}

// cutsTo demands that the state after a snapshot is this one.
func cutsTo(t *testing.T, k stable.Kept, snap api.Snap, entries ...api.Entry) {
	t.Helper()
	got, e := stable.Cut(k, snap)
	are(t, api.OK, e)
	isKept(t, got, stable.Kept{Term: k.Term, Vote: k.Vote, Snap: snap, Entries: entries})
}

// isOld demands that a snapshot does not suit a state.
func isOld(t *testing.T, k stable.Kept, snap api.Snap) {
	t.Helper()
	if got, e := stable.Cut(k, snap); e != api.ErrOld || !equal(got, stable.Kept{}) {
		t.Fatalf("Cut at %d of %s returned %s, %d", snap.Index, brief(k), brief(got), e)
	}
}

// TestCutAtEachIndex: behind a snapshot at 3 of the term 2 and entries of the terms 2, 4, 4.
func TestCutAtEachIndex(t *testing.T) {
	k := stable.Kept{Term: 5, Vote: 2, Snap: full(3, 2), Entries: entriesOf(noops(4, 2, 4, 4))}
	for index := range uint64(4) {
		for term := range uint64(6) {
			isOld(t, k, full(index, term))
		}
	}
	isOld(t, k, api.Snap{})
	isOld(t, k, k.Snap)
	isOld(t, stable.Kept{}, full(0, 5))
	isOld(t, stable.Kept{}, api.Snap{})
	// At an entry, of its term and of others.
	cutsTo(t, k, full(4, 2), k.Entries[1:]...)
	cutsTo(t, k, bare(5, 4), k.Entries[2:]...)
	cutsTo(t, k, full(6, 4))
	for _, snap := range []api.Snap{full(4, 1), full(4, 3), full(4, 4), full(5, 2), full(5, 3), full(5, 5), full(6, 3), full(6, 5)} {
		cutsTo(t, k, snap)
	}
	// Above all entries, whatever the term is.
	for _, index := range []uint64{7, 8, 1 << 32, 1 << 40} {
		for _, term := range []uint64{0, 1, 2, 4, 5, 1 << 40} {
			cutsTo(t, k, full(index, term))
		}
	}
	// The members and the sections are no matter.
	cutsTo(t, k, api.Snap{Index: 4, Term: 2}, k.Entries[1:]...)
	cutsTo(t, stable.Kept{}, api.Snap{Index: 1})
}

func TestEverySnapshotAfterSmallStates(t *testing.T) {
	t.Parallel()
	for _, k := range smallStates() {
		for index := max(k.Snap.Index, 2) - 2; index < k.Snap.Index+6; index++ {
			for term := range uint64(5) {
				snap := full(index, term)
				if want, ok := cutByHand(k, snap); ok {
					cutsTo(t, k, snap, want.Entries...)
				} else {
					isOld(t, k, snap)
				}
			}
		}
	}
}

// TestStatesThatDoNotFit: nothing is promised about them, nor about numbers that are too great, but that every call ends.
func TestStatesThatDoNotFit(t *testing.T) {
	numbers := []uint64{0, 1, 2, 3, 1 << 40, 1 << 63, math.MaxUint64 - 1, math.MaxUint64}
	random := rand.New(rand.NewSource(1))
	some := func() uint64 { return numbers[random.Intn(len(numbers))] }
	for range 20000 {
		k := stable.Kept{Term: some(), Snap: bare(some(), some())}
		for range random.Intn(4) {
			k.Entries = append(k.Entries, api.Entry{Index: some(), Term: some(), Kind: uint8(random.Intn(7))})
		}
		stable.After(k, noop(some(), some()), noop(some(), some()))
		stable.Cut(k, bare(some(), some()))
	}
}

// TestArgumentsAreNotChanged: not even the room behind their lists.
func TestArgumentsAreNotChanged(t *testing.T) {
	room := entriesOf(noops(4, 2, 4, 4, 9, 9, 9))
	was := slices.Clone(room)
	k := stable.Kept{Snap: full(3, 2), Entries: room[:3]}
	recs := []api.Rec{noop(7, 4), noop(4, 3), noop(5, 3), noop(6, 3), noop(9, 9)}
	wasRecs := slices.Clone(recs)
	for n := range 5 {
		_, e := stable.After(k, recs[:n]...)
		are(t, api.OK, e)
	}
	suitsNot(t, k, recs...)
	suitsNot(t, k, noop(4, 3), api.Rec{})
	cutsTo(t, k, full(4, 2), was[1:3]...)
	cutsTo(t, k, full(9, 2))
	if !slices.Equal(room, was) || !slices.Equal(recs, wasRecs) || k.Snap != full(3, 2) {
		t.Fatalf("%v, %v", room, recs)
	}
}

// stringsOf are the strings of a state.
func stringsOf(k stable.Kept) []string {
	all := slices.Clone(k.Snap.Sections[:])
	for _, e := range k.Entries {
		all = append(all, e.Body)
	}
	return all
}

// shareNothing demands that no string of a state lies in one of the others.
func shareNothing(t *testing.T, k stable.Kept, others ...string) {
	t.Helper()
	for i, a := range stringsOf(k) {
		for _, b := range others {
			if liesIn(a, b) || liesIn(b, a) {
				t.Fatalf("the string %d of a state, %q, shares memory", i, a)
			}
		}
	}
}

func TestStatesShareNoMemory(t *testing.T) {
	body := []byte("body, body, body")
	k := stable.Kept{Snap: full(3, 2), Entries: []api.Entry{data(4, 2, lying(body)).Entry, data(5, 2, lying(body)).Entry}}
	r := data(6, 2, lying(body))
	old := append(stringsOf(k), lying(body))
	next, e := stable.After(k, r)
	are(t, api.OK, e)
	shareNothing(t, next, old...)
	none, e := stable.After(k)
	are(t, api.OK, e)
	shareNothing(t, none, old...)
	// The snapshot's sections are another call's argument, as are the Bodies.
	snap := full(4, 2)
	snap.Sections[1] = lying(body)
	cut, e := stable.Cut(k, snap)
	are(t, api.OK, e)
	shareNothing(t, cut, append(old, snap.Sections[:]...)...)
	clear(body)
	clear(k.Entries[:cap(k.Entries)])
	want := []api.Entry{data(4, 2, "body, body, body").Entry, data(5, 2, "body, body, body").Entry, data(6, 2, "body, body, body").Entry}
	if !slices.Equal(next.Entries, want) || !slices.Equal(none.Entries, want[:2]) || !slices.Equal(cut.Entries, want[1:2]) || cut.Snap.Sections[1] != "body, body, body" {
		t.Fatalf("%v, %v, %v, %q", next.Entries, none.Entries, cut.Entries, cut.Snap.Sections)
	}
}
