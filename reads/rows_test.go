package reads_test

import (
	"math/rand"
	"slices"
	"testing"

	"wapentake/reads"
)

// alphabet are calls with numbers below, at and above each other's.
var alphabet = []call{
	ask(0), ask(1), ask(2), ask(greatest),
	begin(1, 1), begin(2, 1), begin(1, 2), begin(0, greatest), begin(greatest, 0),
	told(0), told(1), told(2), told(greatest), drop(),
}

// P13.1 to P13.3: every row of five calls out of the alphabet, each of which returns what the model does.
func TestEveryRow(t *testing.T) {
	const length = 5
	var row [length]int
	for {
		r, m := reads.New(), model{}
		for _, n := range row {
			do(t, r, &m, alphabet[n])
		}
		// What the row left in the list.
		do(t, r, &m, begin(0, 0))
		do(t, r, &m, told(greatest))
		at := 0
		for at < length && row[at] == len(alphabet)-1 {
			row[at] = 0
			at++
		}
		if at == length {
			return
		}
		row[at]++
	}
}

// near is a number that is often close to n, which grows slowly.
func near(random *rand.Rand, n uint64) uint64 {
	if random.Intn(30) == 0 {
		return []uint64{0, 1 << 32, 1 << 63, greatest}[random.Intn(4)]
	}
	return n + 4 - min(n+4, uint64(random.Intn(8)))
}

// anyCall is a call in a row that has been going on for a while.
func anyCall(random *rand.Rand, ids, while int) call {
	n := uint64(while / 8)
	switch kind := random.Intn(20); {
	case kind < 10:
		if random.Intn(20) == 0 {
			return ask(greatest - uint64(random.Intn(3)))
		}
		return ask(uint64(random.Intn(ids)))
	case kind < 14:
		return begin(near(random, n), near(random, n))
	case kind < 19:
		return told(near(random, n))
	}
	if random.Intn(3) > 0 {
		return told(n)
	}
	return drop()
}

// P13.1 to P13.3: rows of any calls, after each of which the list is as its model.
func TestAnyRow(t *testing.T) {
	for seed := range int64(1000) {
		random := rand.New(rand.NewSource(seed))
		ids := 2 + random.Intn(40)
		r, m := reads.New(), model{}
		for while := range 200 {
			do(t, r, &m, anyCall(random, ids, while))
		}
	}
}

// asked is a read that was asked for, with what its Begin was given.
type asked struct {
	read
	isBegun bool
}

// witness holds what the calls return against P13.5 alone: it knows no rule by which a read is told.
type witness struct {
	there []asked
	// returned are how many reads were, of those asked for.
	asked, returned int
}

// sees demands that what c returned, a, is lawful.
func (w *witness) sees(t *testing.T, c call, a answer) {
	t.Helper()
	switch c.kind {
	case 'a':
		if a.ok {
			w.there = append(w.there, asked{read: read{Id: c.first}})
			w.asked++
		}
	case 'b':
		w.seesBegin(t, c, a.count)
	case 't':
		w.seesTold(t, a.reads)
	default:
		w.takes(t, a.ids)
		if len(w.there) > 0 {
			t.Fatalf("Drop left %v", w.there)
		}
	}
}

// seesBegin demands that count is how many had not been begun.
func (w *witness) seesBegin(t *testing.T, c call, count int) {
	t.Helper()
	begun := 0
	for n := range w.there {
		if !w.there[n].isBegun {
			w.there[n] = asked{read{w.there[n].Id, c.first, c.second}, true}
			begun++
		}
	}
	if count != begun {
		t.Fatalf("Begin: %d of %d", count, begun)
	}
}

// seesTold demands that the reads told were begun with their numbers or lower ones, and that these never decrease.
func (w *witness) seesTold(t *testing.T, told []read) {
	t.Helper()
	before := slices.Clone(w.there)
	var ids []uint64
	for _, r := range told {
		ids = append(ids, r.Id)
	}
	w.takes(t, ids)
	for n, r := range told {
		begun := before[n]
		if !begun.isBegun || r.Index < begun.Index || r.Round < begun.Round {
			t.Fatalf("told %v, which was %v", r, begun)
		}
		if n > 0 && (r.Index < told[n-1].Index || r.Round < told[n-1].Round) {
			t.Fatalf("told %v behind %v", r, told[n-1])
		}
	}
}

// takes demands that ids are those of the reads that were asked for first.
func (w *witness) takes(t *testing.T, ids []uint64) {
	t.Helper()
	for _, id := range ids {
		if len(w.there) == 0 || w.there[0].Id != id {
			t.Fatalf("%d is returned, out of %v", id, w.there)
		}
		w.there = w.there[1:]
		w.returned++
	}
}

// P13.5: over rows of any calls each read is returned once, or is still there, in its order.
func TestEachOnce(t *testing.T) {
	all := 0
	for seed := range int64(1000) {
		random := rand.New(rand.NewSource(seed))
		ids := 2 + random.Intn(40)
		r, w := reads.New(), witness{}
		for while := range 200 {
			c := anyCall(random, ids, while)
			w.sees(t, c, c.of(r))
			begun, waiting := r.Len()
			if begun+waiting != len(w.there) || w.asked != w.returned+begun+waiting {
				t.Fatalf("%d asked for, %d returned, %d and %d there", w.asked, w.returned, begun, waiting)
			}
		}
		w.sees(t, drop(), drop().of(r))
		if w.asked != w.returned {
			t.Fatalf("%d asked for, %d returned", w.asked, w.returned)
		}
		all += w.returned
	}
	if all < 20_000 {
		t.Errorf("only %d reads in all rows", all)
	}
}

// P13.5: a long list, whose reads leave it few at a time and in their order.
func TestALongList(t *testing.T) {
	const n = 3000
	r, w := reads.New(), witness{}
	see := func(c call) {
		t.Helper()
		w.sees(t, c, c.of(r))
	}
	for id := range uint64(n) {
		see(ask(id * 7919 % n))
		if id%3 == 2 {
			see(begin(n-id, id))
		}
	}
	hasLen(t, r, n, 0)
	for round := uint64(2); round < n; round += 3 {
		see(told(round))
		if w.returned != int(round)+1 {
			t.Fatalf("round %d told, and %d are returned", round, w.returned)
		}
	}
	hasLen(t, r, 0, 0)
}
