package logs_test

import (
	"math"
	"math/rand"
	"testing"

	"wapentake/logs"
)

// near is an index that is mostly one of m's, or beside them.
func near(random *rand.Rand, m model) uint64 {
	if random.Intn(20) == 0 {
		return []uint64{0, 1 << 62, 1 << 63, math.MaxUint64}[random.Intn(4)]
	}
	return max(m.index, 2) - 2 + uint64(random.Intn(len(m.entries)+5))
}

// termNear is mostly the term that m has at an index.
func termNear(random *rand.Rand, m model, index uint64) uint64 {
	term, _ := m.termAt(index)
	switch random.Intn(8) {
	case 0:
		return term + 1
	case 1:
		return max(term, 1) - 1
	}
	return term
}

// step does a call, of any kind and with anything, to both.
func step(t *testing.T, random *rand.Rand, l *logs.Log, m *model) {
	t.Helper()
	index := near(random, *m)
	term := termNear(random, *m, index)
	switch kind := random.Intn(20); {
	case kind < 6:
		e := anyEntry(random, "added", index, term)
		next, want := m.add(e)
		if got := l.Add(e); got != want {
			t.Fatalf("Add(%v): %v, not %v", e, got, want)
		}
		*m = next
	case kind < 16:
		entries := anyEntries(random, "put", index, term, 12)
		if random.Intn(3) == 0 && m.has(index, term) {
			// What the log has itself, and something behind it.
			entries = m.from(index+1, random.Intn(6))
			behind, _ := model{index, term, 0, entries}.last()
			entries = append(entries, anyEntries(random, "behind", behind, term+uint64(random.Intn(9)), 3)...)
		}
		if len(entries) > 0 && random.Intn(20) == 0 {
			entries[random.Intn(len(entries))].Index += uint64(random.Intn(3)) - 1
		}
		put(t, l, m, index, term, entries)
	case kind < 18:
		cut(t, l, m, index)
	default:
		if index > 1<<61 {
			index = 3
		}
		*m = m.reset(index, term, uint8(kind))
		l.Reset(index, term, uint8(kind))
	}
}

// TestAnyCalls: rows of any calls, after each of which the log is as its model.
func TestAnyCalls(t *testing.T) {
	for seed := range int64(400) {
		random := rand.New(rand.NewSource(seed))
		m := model{index: uint64(random.Intn(4)), term: uint64(random.Intn(3)), members: uint8(random.Intn(256))}
		m.entries = anyEntries(random, "new", m.index, m.term, 9)
		l := m.log(t)
		for range 100 {
			step(t, random, l, &m)
			isAs(t, l, m)
		}
		tellsAs(t, l, m)
	}
}

// TestCallsBeyondTheBounds: indexes that wrap round promise nothing but that each call returns.
func TestCallsBeyondTheBounds(t *testing.T) {
	for _, index := range []uint64{1 << 62, 1<<63 - 2, math.MaxUint64 - 3, math.MaxUint64 - 1, math.MaxUint64} {
		for seed := range int64(50) {
			random := rand.New(rand.NewSource(seed))
			l := open(t, index, 3, 7)
			for range 60 {
				i := []uint64{0, 1, 2, index - 2, index - 1, index, index + 1, index + 2, index + 3, math.MaxUint64}[random.Intn(10)]
				l.Term(i)
				l.From(i, 3)
				l.MembersAt(i)
				l.Members()
				l.AsNew(i, 3)
				l.Last()
				l.First()
				switch random.Intn(4) {
				case 0:
					l.Add(anyEntry(random, "added", i, 3))
				case 1:
					l.Put(i, 3, anyEntries(random, "put", i, 3, 4))
				case 2:
					l.Cut(i)
				default:
					if random.Intn(8) == 0 {
						l.Reset(i, 3, 7)
					}
				}
			}
		}
	}
}

// TestALongLog: each call takes the time that its own entries need, not that of the whole log.
func TestALongLog(t *testing.T) {
	const n = 300_000
	l := open(t, 0, 0, 7)
	for i := range uint64(n) {
		l.Add(noop(0, 1))
		if term, ok := l.Term(i + 1); term != 1 || !ok {
			t.Fatalf("Term(%d): %d, %v", i+1, term, ok)
		}
	}
	for i := range uint64(n) {
		if ok, match, _ := l.Put(n+i, 1, noops(n+i+1, 1)); !ok || match != n+i+1 {
			t.Fatalf("Put at %d: %v, %d", n+i, ok, match)
		}
	}
	for i := range uint64(2 * n) {
		if got := l.From(i, 1); len(got) != 1 || got[0] != noop(i+1, 1) {
			t.Fatalf("From(%d, 1): %v", i, got)
		}
		l.Cut(i + 1)
	}
	isAs(t, l, model{2 * n, 1, 7, nil})
}
