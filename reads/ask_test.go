package reads_test

import (
	"testing"

	"wapentake/reads"
)

// P13.1 to P13.3: the chapter's examples, one after the other.
func TestExamples(t *testing.T) {
	areSteps(t, reads.New(),
		step{ask(4), yes(), 0, 1},
		step{ask(9), yes(), 0, 2},
		step{ask(4), no(), 0, 2},
		step{begin(7, 2), these(2), 2, 0},
		step{ask(5), yes(), 2, 1},
		step{told(1), back(), 2, 1},
		step{told(2), back(read{4, 7, 2}, read{9, 7, 2}), 0, 1},
		step{begin(3, 1), these(1), 1, 0},
		step{told(1), back(read{5, 3, 1}), 0, 0},
		step{ask(6), yes(), 0, 1},
		step{drop(), gone(6), 0, 0},
	)
}

// P13.1: New's list is empty, and its own.
func TestNew(t *testing.T) {
	a, b := reads.New(), reads.New()
	if a == nil || b == nil || a == b {
		t.Fatalf("New: %p, %p", a, b)
	}
	hasLen(t, a, 0, 0)
	areSteps(t, a, step{ask(1), yes(), 0, 1}, step{begin(2, 3), these(1), 1, 0}, step{ask(2), yes(), 1, 1})
	hasLen(t, b, 0, 0)
	areSteps(t, b, step{ask(1), yes(), 0, 1}, step{ask(2), yes(), 0, 2})
}

// P13.1: an Id is not taken while it waits or is begun, wherever it is in the list, and is taken again once it was told or dropped.
func TestAskTwice(t *testing.T) {
	areSteps(t, reads.New(),
		step{ask(1), yes(), 0, 1}, step{ask(2), yes(), 0, 2}, step{ask(3), yes(), 0, 3},
		step{ask(1), no(), 0, 3}, step{ask(2), no(), 0, 3}, step{ask(3), no(), 0, 3},
		step{begin(5, 5), these(3), 3, 0},
		step{ask(1), no(), 3, 0}, step{ask(2), no(), 3, 0}, step{ask(3), no(), 3, 0},
		step{ask(4), yes(), 3, 1},
		step{ask(1), no(), 3, 1}, step{ask(2), no(), 3, 1}, step{ask(3), no(), 3, 1}, step{ask(4), no(), 3, 1},
		step{told(5), back(read{1, 5, 5}, read{2, 5, 5}, read{3, 5, 5}), 0, 1},
		step{ask(4), no(), 0, 1}, step{ask(3), yes(), 0, 2}, step{ask(1), yes(), 0, 3}, step{ask(3), no(), 0, 3},
		step{begin(6, 6), these(3), 3, 0},
		step{ask(2), yes(), 3, 1},
		step{drop(), gone(4, 3, 1, 2), 0, 0},
		step{ask(1), yes(), 0, 1}, step{ask(2), yes(), 0, 2}, step{ask(4), yes(), 0, 3}, step{ask(2), no(), 0, 3},
		step{drop(), gone(1, 2, 4), 0, 0},
	)
}

// P13.1: an Ask that returns false changes nothing: neither where the read is, nor what it was begun with.
func TestAskTwiceChangesNothing(t *testing.T) {
	r := with(t, ask(1), ask(2), begin(7, 2), ask(3), ask(1), ask(2), ask(3))
	areSteps(t, r,
		step{begin(8, 3), these(1), 3, 0},
		step{ask(1), no(), 3, 0},
		step{told(greatest), back(read{1, 7, 2}, read{2, 7, 2}, read{3, 8, 3}), 0, 0},
	)
}

// P13.1: any number is an Id, and no two are taken for each other.
func TestIds(t *testing.T) {
	ids := []uint64{0, 1, 2, 255, 256, 257, 1<<31 - 1, 1 << 31, 1<<32 - 1, 1 << 32, 1<<32 + 1, 1<<53 + 1, 1 << 53, 1<<63 - 1, 1 << 63, greatest - 1, greatest}
	r := reads.New()
	var all []read
	for n, id := range ids {
		areSteps(t, r, step{ask(id), yes(), 0, n + 1}, step{ask(id), no(), 0, n + 1})
		all = append(all, read{id, 1, 1})
	}
	areSteps(t, r, step{begin(1, 1), these(len(ids)), len(ids), 0})
	for _, id := range ids {
		areSteps(t, r, step{ask(id), no(), len(ids), 0})
	}
	areSteps(t, r, step{told(1), back(all...), 0, 0})
	for n, id := range ids {
		areSteps(t, r, step{ask(id), yes(), 0, n + 1})
	}
	areSteps(t, r, step{drop(), gone(ids...), 0, 0})
}

// P13.4: the methods of a nil list return nothing, whatever they are given and however often.
func TestNil(t *testing.T) {
	var r *reads.Reads
	for range 2 {
		for _, n := range []uint64{0, 1, greatest} {
			areSteps(t, r, step{ask(n), no(), 0, 0}, step{begin(n, n), these(0), 0, 0}, step{told(n), back(), 0, 0}, step{drop(), gone(), 0, 0})
		}
	}
}

// P13.4: the zero Reads is an empty list, whichever method comes first.
func TestZero(t *testing.T) {
	var a, b, c, d reads.Reads
	hasLen(t, &a, 0, 0)
	areSteps(t, &a, step{ask(0), yes(), 0, 1}, step{ask(0), no(), 0, 1})
	areSteps(t, &b, step{begin(7, 7), these(0), 0, 0}, step{ask(1), yes(), 0, 1})
	areSteps(t, &c, step{told(7), back(), 0, 0}, step{ask(1), yes(), 0, 1})
	areSteps(t, &d, step{drop(), gone(), 0, 0}, step{ask(1), yes(), 0, 1})
	for _, r := range []*reads.Reads{&a, &b, &c, &d, new(reads.Reads), {}} {
		r.Drop()
		areSteps(t, r,
			step{ask(4), yes(), 0, 1}, step{begin(7, 2), these(1), 1, 0}, step{ask(5), yes(), 1, 1},
			step{told(1), back(), 1, 1}, step{told(2), back(read{4, 7, 2}), 0, 1}, step{drop(), gone(5), 0, 0},
		)
	}
}
