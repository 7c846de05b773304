package reads_test

import (
	"testing"

	"wapentake/reads"
)

// P13.2: with nothing waiting, whether there is nothing at all or begun ones, which stay as they are.
func TestBeginOfNothing(t *testing.T) {
	areSteps(t, reads.New(),
		step{begin(9, 9), these(0), 0, 0},
		step{begin(0, 0), these(0), 0, 0},
		step{ask(1), yes(), 0, 1},
		// Those above began nothing: their numbers are of no read that is in the list.
		step{begin(3, 4), these(1), 1, 0},
		step{begin(9, 9), these(0), 1, 0},
		step{begin(0, 0), these(0), 1, 0},
		step{ask(2), yes(), 1, 1},
		step{begin(3, 5), these(1), 2, 0},
		step{told(4), back(read{1, 3, 4}), 1, 0},
		step{told(5), back(read{2, 3, 5}), 0, 0},
	)
}

// P13.2: a begun read in the list holds later indexes and rounds up to its own, each alone.
func TestBeginBehindABegunRead(t *testing.T) {
	for _, x := range []struct{ index, round, wantIndex, wantRound uint64 }{
		{10, 20, 10, 20},
		{9, 20, 10, 20}, {11, 20, 11, 20}, {0, 20, 10, 20}, {greatest, 20, greatest, 20},
		{10, 19, 10, 20}, {10, 21, 10, 21}, {10, 0, 10, 20}, {10, greatest, 10, greatest},
		{9, 19, 10, 20}, {9, 21, 10, 21}, {11, 19, 11, 20}, {11, 21, 11, 21},
		{0, 0, 10, 20}, {0, greatest, 10, greatest}, {greatest, 0, greatest, 20}, {greatest, greatest, greatest, greatest},
		// The other one's number is of no account.
		{20, 10, 20, 20}, {15, 15, 15, 20},
	} {
		r := with(t, ask(1), begin(10, 20), ask(2), ask(3))
		areSteps(t, r,
			step{begin(x.index, x.round), these(2), 3, 0},
			step{told(greatest), back(read{1, 10, 20}, read{2, x.wantIndex, x.wantRound}, read{3, x.wantIndex, x.wantRound}), 0, 0},
		)
	}
}

// P13.2: where there are several begun reads, the greatest Index and the greatest Round count, though Begin was given others, and of different calls.
func TestBeginBehindSeveral(t *testing.T) {
	r := with(t, ask(1), begin(10, 2), ask(2), begin(4, 8), ask(3), begin(6, 5), ask(4))
	areSteps(t, r,
		step{begin(9, 7), these(1), 4, 0},
		step{told(2), back(read{1, 10, 2}), 3, 0},
		// The first is gone, but the others have its Index.
		step{ask(5), yes(), 3, 1},
		step{begin(0, 0), these(1), 4, 0},
		step{told(7), back(), 4, 0},
		step{told(8), back(read{2, 10, 8}, read{3, 10, 8}, read{4, 10, 8}, read{5, 10, 8}), 0, 0},
	)
}

// P13.2: of begun reads that were told or dropped, nothing is left that would hold later ones up.
func TestBeginBehindThoseThatLeft(t *testing.T) {
	areSteps(t, with(t, ask(1), begin(10, 20), told(20), ask(2)),
		step{begin(3, 4), these(1), 1, 0}, step{told(4), back(read{2, 3, 4}), 0, 0})
	areSteps(t, with(t, ask(1), begin(10, 20), drop(), ask(2)),
		step{begin(3, 4), these(1), 1, 0}, step{told(4), back(read{2, 3, 4}), 0, 0})
	areSteps(t, with(t, ask(1), begin(10, 20), ask(2), told(20)),
		step{begin(3, 4), these(1), 1, 0}, step{told(4), back(read{2, 3, 4}), 0, 0})
	areSteps(t, with(t, ask(1), begin(1, 2), ask(2), begin(10, 20), told(19), ask(3)),
		step{begin(3, 4), these(1), 2, 0}, step{told(20), back(read{2, 10, 20}, read{3, 10, 20}), 0, 0})
}

// P13.2: every index and round behind every other one, at the edges of numbers.
func TestBeginOfAnyNumbers(t *testing.T) {
	numbers := []uint64{0, 1, 2, 3, 1<<32 - 1, 1 << 32, 1<<63 - 1, 1 << 63, greatest - 1, greatest}
	for _, index := range numbers {
		for _, round := range numbers {
			for _, laterIndex := range numbers {
				for _, laterRound := range numbers {
					with(t, ask(index), begin(index, round), ask(index+1), begin(laterIndex, laterRound), told(round), told(laterRound), drop())
				}
			}
		}
	}
}
