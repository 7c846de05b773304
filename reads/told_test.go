package reads_test

import (
	"testing"

	"wapentake/reads"
)

// P13.3: Told with a round below, at and above that of the begun reads; those that wait stay.
func TestToldEdges(t *testing.T) {
	all := back(read{1, 9, 5}, read{2, 9, 5})
	for _, x := range []struct {
		round uint64
		want  answer
		left  int
	}{
		{0, back(), 2}, {1, back(), 2}, {4, back(), 2}, {5, all, 0}, {6, all, 0}, {9, all, 0}, {5 + 1<<32, all, 0}, {1 << 63, all, 0}, {greatest, all, 0},
	} {
		areSteps(t, with(t, ask(1), ask(2), begin(9, 5)), step{told(x.round), x.want, x.left, 0}, step{told(4), back(), x.left, 0})
		areSteps(t, with(t, ask(1), ask(2), begin(9, 5), ask(3)), step{told(x.round), x.want, x.left, 1}, step{told(x.round), back(), x.left, 1})
	}
}

// P13.3: with none begun, nothing is told, whatever the round.
func TestToldWithNoneBegun(t *testing.T) {
	for _, round := range []uint64{0, 1, greatest} {
		areSteps(t, reads.New(), step{told(round), back(), 0, 0})
		areSteps(t, with(t, ask(0), ask(7)), step{told(round), back(), 0, 2}, step{drop(), gone(0, 7), 0, 0})
		areSteps(t, with(t, ask(0), begin(1, 1), told(1), ask(7)), step{told(round), back(), 0, 1}, step{drop(), gone(7), 0, 0})
		areSteps(t, with(t, ask(0), begin(1, 1), drop()), step{told(round), back(), 0, 0})
	}
}

// P13.3: of reads begun in several rounds, those up to the one told go, and each goes once.
func TestToldOfSeveralRounds(t *testing.T) {
	calls := []call{ask(8), ask(7), begin(1, 2), ask(6), begin(3, 4), ask(5), ask(4), begin(3, 4), ask(3), begin(9, 6), ask(2), ask(1)}
	list := []read{{8, 1, 2}, {7, 1, 2}, {6, 3, 4}, {5, 3, 4}, {4, 3, 4}, {3, 9, 6}}
	upTo := []int{0, 0, 2, 2, 5, 5, 6, 6}
	for first := range uint64(8) {
		for second := range uint64(8) {
			r := with(t, calls...)
			one := upTo[first]
			two := max(one, upTo[second])
			areSteps(t, r,
				step{told(first), back(list[:one]...), len(list) - one, 2},
				step{told(second), back(list[one:two]...), len(list) - two, 2},
				step{told(greatest), back(list[two:]...), 0, 2},
				step{drop(), gone(2, 1), 0, 0},
			)
		}
	}
}

// P13.3: a read that was begun with the greatest round is told by that one alone.
func TestToldOfTheGreatestRound(t *testing.T) {
	areSteps(t, with(t, ask(greatest), begin(greatest, greatest)),
		step{told(0), back(), 1, 0},
		step{told(greatest - 1), back(), 1, 0},
		step{told(greatest), back(read{greatest, greatest, greatest}), 0, 0},
	)
	areSteps(t, with(t, ask(0), begin(0, 0)), step{told(0), back(read{0, 0, 0}), 0, 0}, step{told(0), back(), 0, 0})
}

// P13.3: Drop of waiting ones, of begun ones, of both, and of an empty list.
func TestDrop(t *testing.T) {
	for _, x := range []struct {
		calls []call
		want  answer
	}{
		{nil, gone()},
		{[]call{ask(1), drop()}, gone()},
		{[]call{ask(1), begin(2, 2), told(2)}, gone()},
		{[]call{begin(2, 2), told(2)}, gone()},
		{[]call{ask(0)}, gone(0)},
		{[]call{ask(9), ask(greatest), ask(3)}, gone(9, greatest, 3)},
		{[]call{ask(9), ask(4), begin(1, 1)}, gone(9, 4)},
		{[]call{ask(9), begin(1, 1), ask(4), begin(2, 2)}, gone(9, 4)},
		{[]call{ask(9), begin(1, 1), ask(4), begin(2, 2), ask(6), ask(5)}, gone(9, 4, 6, 5)},
		{[]call{ask(9), begin(1, 1), ask(4), begin(2, 2), ask(6), ask(5), told(1)}, gone(4, 6, 5)},
		{[]call{ask(9), begin(1, 1), ask(4), begin(2, 2), ask(6), ask(5), told(2)}, gone(6, 5)},
		{[]call{ask(9), begin(1, 1), ask(4), told(1), ask(9)}, gone(4, 9)},
	} {
		areSteps(t, with(t, x.calls...),
			step{drop(), x.want, 0, 0},
			step{drop(), gone(), 0, 0},
			step{told(greatest), back(), 0, 0},
			step{begin(5, 5), these(0), 0, 0},
			step{ask(9), yes(), 0, 1},
			step{begin(1, 1), these(1), 1, 0},
			step{told(1), back(read{9, 1, 1}), 0, 0},
		)
	}
}
