package logs_test

import (
	"math/rand"
	"slices"
	"testing"

	"wapentake/api"
	"wapentake/logs"
)

// agreeAt reports whether both logs have the same term at an index.
func agreeAt(a, b *logs.Log, index uint64) bool {
	x, isIn := a.Term(index)
	y, isInToo := b.Term(index)
	return isIn && isInToo && x == y
}

// isSound demands that the indexes of a log are consecutive and its terms never decrease.
func isSound(t *testing.T, l *logs.Log) {
	t.Helper()
	index, term := l.First()
	for _, e := range l.From(0, most) {
		if e.Index != index+1 || e.Term < term {
			t.Fatalf("%v behind %d %d", e, index, term)
		}
		index, term = e.Index, e.Term
	}
	if lastIndex, lastTerm := l.Last(); lastIndex != index || lastTerm != term {
		t.Fatalf("Last: %d %d, not %d %d", lastIndex, lastTerm, index, term)
	}
}

// forks are two histories with a common start; behind it, one has even terms and the other one odd ones, as no leader of one is that of the other.
func forks(random *rand.Rand) (a, b []api.Entry, common uint64) {
	term := uint64(0)
	for range random.Intn(6) {
		term += uint64(random.Intn(3))
		a = append(a, data(uint64(len(a)+1), term, "common"))
	}
	common = uint64(len(a))
	b = slices.Clone(a)
	even, odd := term/2*2+2, term/2*2+1
	for range random.Intn(7) {
		even += 2 * uint64(random.Intn(2))
		a = append(a, data(uint64(len(a)+1), even, "even"))
	}
	odd += 2 * uint64(random.Intn(5))
	for range random.Intn(7) {
		odd += 2 * uint64(random.Intn(2))
		b = append(b, data(uint64(len(b)+1), max(odd, term), "odd"))
	}
	return a, b, common
}

// cutAny makes a log of a history, cut off anywhere up to an index.
func cutAny(t *testing.T, random *rand.Rand, history []api.Entry, upTo uint64) *logs.Log {
	t.Helper()
	l := open(t, 0, 0, 7, history...)
	l.Cut(uint64(random.Intn(int(upTo) + 1)))
	return l
}

// TestPutAgrees: of two logs, one is put into the other from every index at which they agree, as far as any index.
func TestPutAgrees(t *testing.T) {
	puts := 0
	for seed := range int64(3000) {
		random := rand.New(rand.NewSource(seed))
		histA, histB, common := forks(random)
		for index := uint64(0); index <= common; index++ {
			a, b := cutAny(t, random, histA, common), cutAny(t, random, histB, common)
			if !agreeAt(a, b, index) {
				continue
			}
			puts++
			term, _ := a.Term(index)
			sent := b.From(index+1, random.Intn(8))
			old := a.From(0, most)
			ok, match, fresh := a.Put(index, term, sent)
			if !ok || match != index+uint64(len(sent)) {
				t.Fatalf("Put(%d, %d, %v): %v, %d", index, term, sent, ok, match)
			}
			isSound(t, a)
			agreeUpTo(t, a, b, match)
			areKept(t, a, old, sent, fresh)
		}
	}
	if puts < 3000 {
		t.Errorf("%d puts alone", puts)
	}
}

// agreeUpTo demands that two logs have the same at all positions up to an index that both have.
func agreeUpTo(t *testing.T, a, b *logs.Log, index uint64) {
	t.Helper()
	firstA, _ := a.First()
	firstB, _ := b.First()
	first := max(firstA, firstB)
	for i := first; i <= index; i++ {
		if !agreeAt(a, b, i) {
			t.Fatalf("no agreement at %d", i)
		}
		if x, y := a.From(i, 1), b.From(i, 1); i > first && (x[0] != y[0] || x[0].Index != i) {
			t.Fatalf("at %d: %v, %v", i, x, y)
		}
	}
}

// areKept demands of a log, with its old entries, that those of sent that were among them are there still, and the others are fresh.
func areKept(t *testing.T, l *logs.Log, old, sent, fresh []api.Entry) {
	t.Helper()
	there := l.From(0, most)
	replaced := false
	var isNew []api.Entry
	for _, e := range sent {
		at := slices.IndexFunc(old, func(o api.Entry) bool { return o.Index == e.Index })
		if at >= 0 && old[at].Term == e.Term {
			if !slices.Contains(there, old[at]) {
				t.Fatalf("%v is not kept", old[at])
			}
			continue
		}
		replaced = replaced || at >= 0
		isNew = append(isNew, e)
	}
	if !slices.Equal(fresh, isNew) {
		t.Fatalf("fresh %v, not %v", fresh, isNew)
	}
	if !replaced && len(there) < len(old) {
		t.Fatalf("%d entries of %d, though none had another term", len(there), len(old))
	}
}

// TestPutOfAnything: whatever is put, into whatever log, it is there afterwards if Put is true, and nothing is changed if it is false.
func TestPutOfAnything(t *testing.T) {
	done := [2]int{}
	for seed := range int64(20000) {
		random := rand.New(rand.NewSource(seed))
		first, firstTerm := uint64(random.Intn(4)), uint64(random.Intn(3))
		l := open(t, first, firstTerm, 7, anyEntries(random, "old", first, firstTerm, 6)...)
		old := l.From(0, most)
		index, term := uint64(random.Intn(8)), uint64(random.Intn(4))
		if own, ok := l.Term(index); ok && random.Intn(3) > 0 {
			term = own
		}
		entries := anyEntries(random, "new", index, term, 6)
		ok, match, fresh := l.Put(index, term, entries)
		isSound(t, l)
		if !ok {
			done[0]++
			if now := l.From(0, most); match != 0 || len(fresh) != 0 || !slices.Equal(now, old) {
				t.Fatalf("false, but %d, %v, and entries %v, not %v", match, fresh, now, old)
			}
			continue
		}
		done[1]++
		if index >= first {
			isAt(t, l, index, term)
		}
		for _, e := range entries {
			if e.Index >= first {
				isAt(t, l, e.Index, e.Term)
			}
		}
		if match < first || len(entries) > 0 && match != entries[len(entries)-1].Index || len(entries) == 0 && match != index {
			t.Fatalf("match %d, of entries %v behind %d", match, entries, index)
		}
	}
	if done[0] < 2000 || done[1] < 2000 {
		t.Errorf("%d were false, %d true", done[0], done[1])
	}
}

// isAt demands that the log has this term at this index.
func isAt(t *testing.T, l *logs.Log, index, term uint64) {
	t.Helper()
	if own, ok := l.Term(index); !ok || own != term {
		t.Fatalf("Term(%d): %d, %v, not %d", index, own, ok, term)
	}
}

// TestTermsNeverDecrease: whatever is called.
func TestTermsNeverDecrease(t *testing.T) {
	for seed := range int64(200) {
		random := rand.New(rand.NewSource(seed))
		m := model{index: 2, term: 1, members: 7}
		l := m.log(t)
		for range 60 {
			step(t, random, l, &m)
			isSound(t, l)
		}
	}
}

// tellTheSame demands that two logs tell the same of all positions behind an index.
func tellTheSame(t *testing.T, a, b *logs.Log, index uint64) {
	t.Helper()
	lastA, termA := a.Last()
	lastB, termB := b.Last()
	membersA, _ := a.Members()
	membersB, _ := b.Members()
	if lastA != lastB || termA != termB || membersA != membersB {
		t.Fatalf("Last %d %d, %d %d, Members %d, %d", lastA, termA, lastB, termB, membersA, membersB)
	}
	if a.MembersAt(index) != b.MembersAt(index) || !agreeAt(a, b, index) {
		t.Fatalf("not the same at %d", index)
	}
	for i := index + 1; i <= lastA+2; i++ {
		x, isIn := a.Term(i)
		y, isInToo := b.Term(i)
		if x != y || isIn != isInToo || a.MembersAt(i) != b.MembersAt(i) {
			t.Fatalf("at %d: %d, %v, %d, %v, members %d, %d", i, x, isIn, y, isInToo, a.MembersAt(i), b.MembersAt(i))
		}
		for _, n := range []int{0, 1, 3, most} {
			if p, q := a.From(i, n), b.From(i, n); !slices.Equal(p, q) {
				t.Fatalf("From(%d, %d): %v, %v", i, n, p, q)
			}
		}
		for term := max(termA, 1) - 1; term <= termA+1; term++ {
			if a.AsNew(i, term) != b.AsNew(i, term) {
				t.Fatalf("AsNew(%d, %d): %v, %v", i, term, a.AsNew(i, term), b.AsNew(i, term))
			}
		}
	}
}

// TestCutChangesNothingBehindIt: a log and its twin that was cut, at every index, tell the same, also when the same is done to both behind the cut.
func TestCutChangesNothingBehindIt(t *testing.T) {
	for seed := range int64(1500) {
		random := rand.New(rand.NewSource(seed))
		first, firstTerm := uint64(random.Intn(3)), uint64(random.Intn(3))
		entries := anyEntries(random, "old", first, firstTerm, 8)
		for at := first; at <= first+uint64(len(entries)); at++ {
			whole, part := open(t, first, firstTerm, 7, entries...), open(t, first, firstTerm, 7, entries...)
			if e := part.Cut(at); e != api.OK {
				t.Fatalf("Cut(%d): %d", at, e)
			}
			tellTheSame(t, whole, part, at)
			for range 4 {
				doTheSame(t, random, whole, part, at)
				tellTheSame(t, whole, part, at)
			}
		}
	}
}

// doTheSame calls Add or Put of both logs, at an index or behind it, or a Put of all from the whole log's beginning on.
func doTheSame(t *testing.T, random *rand.Rand, whole, part *logs.Log, at uint64) {
	t.Helper()
	last, _ := whole.Last()
	index := at + uint64(random.Intn(int(last-at)+2))
	term, _ := whole.Term(index)
	switch random.Intn(4) {
	case 0:
		e := anyEntry(random, "added", index, term)
		if x, y := whole.Add(e), part.Add(e); x != y {
			t.Fatalf("Add: %v, %v", x, y)
		}
		return
	case 1:
		first, firstTerm := whole.First()
		termThere, _ := whole.Term(at)
		sent := slices.Concat(whole.From(0, int(at-first)), anyEntries(random, "put", at, termThere, 4))
		samePut(t, whole, part, first, firstTerm, sent)
		return
	}
	term += uint64(random.Intn(8) / 7)
	samePut(t, whole, part, index, term, anyEntries(random, "put", index, term, 4))
}

func samePut(t *testing.T, whole, part *logs.Log, index, term uint64, entries []api.Entry) {
	t.Helper()
	ok, match, fresh := whole.Put(index, term, entries)
	okToo, matchToo, freshToo := part.Put(index, term, entries)
	if ok != okToo || match != matchToo || !slices.Equal(fresh, freshToo) {
		t.Fatalf("Put(%d, %d, %v): %v, %d, %v and %v, %d, %v", index, term, entries, ok, match, fresh, okToo, matchToo, freshToo)
	}
}
