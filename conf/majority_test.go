package conf_test

import (
	"math"
	"testing"

	"wapentake/api"
	"wapentake/conf"
)

func TestWon(t *testing.T) {
	for _, x := range []struct {
		m, votes uint8
		want     bool
	}{
		{7, 3, true}, {7, 1, false}, {3, 1, false}, {0, 255, false},
		{0, 0, false}, {224, 255, false}, {224, 224, false}, {32, 32, false},
		{1, 1, true}, {1, 0, false}, {1, 254, false}, {16, 16, true},
		{3, 3, true}, {3, 2, false}, {3, 253, false},
		{7, 5, true}, {7, 6, true}, {7, 4, false}, {7, 24 + 4, false}, {7, 224 + 4, false},
		{15, 3, false}, {15, 7, true}, {15, 16 + 3, false},
		{31, 7, true}, {31, 3, false}, {31, 28, true}, {31, 224 + 3, false},
		{224 + 7, 3, true}, {224 + 3, 224 + 1, false}, {224 + 1, 1, true}, {128 + 64 + 7, 224 + 1, false},
	} {
		if got := conf.Won(x.m, x.votes); got != x.want {
			t.Errorf("Won(%d, %d): %v", x.m, x.votes, got)
		}
	}
}

func TestWonOfEveryTwo(t *testing.T) {
	for m := range 256 {
		for votes := range 256 {
			if got := conf.Won(uint8(m), uint8(votes)); got != isMajority(uint8(m), uint8(votes)) {
				t.Errorf("Won(%d, %d): %v", m, votes, got)
			}
		}
	}
}

func TestLevel(t *testing.T) {
	const most = math.MaxUint64
	for _, x := range []struct {
		m     uint8
		marks row
		want  uint64
	}{
		{7, row{0, 9, 4, 6}, 6},
		{7, row{99, 9, 4, 6}, 6},
		{7, row{99, 9, 4, 6, 99, 99}, 6},
		{0, row{5, 5, 5, 5, 5, 5}, 0},
		{224, row{5, 5, 5, 5, 5, 5}, 0},
		{1, row{9, 3}, 3},
		{16, row{9, 9, 9, 9, 9, 3}, 3},
		{3, row{0, 2, 8}, 2},
		{3, row{0, 8, 2}, 2},
		{15, row{0, 9, 4, 6, 7}, 6},
		{15, row{0, 9, 4, 4, 7}, 4},
		{31, row{0, 1, 2, 3, 4, 5}, 3},
		{31, row{0, 5, 4, 3, 2, 1}, 3},
		{31, row{9, 4, 1, 5, 2, 3}, 3},
		{255, row{9, 4, 1, 5, 2, 3}, 3},
		{31, row{9, 7, 7, 7, 7, 7}, 7},
		{31, row{9, 7, 7, 7, 8, 8}, 7},
		{31, row{9, 8, 7, 8, 7, 8}, 8},
		{7, row{0, 0, 0, 5}, 0},
		{7, row{0, 5, 0, 5}, 5},
		{7, row{0, most, most, 1}, most},
		{7, row{0, most, most - 1, 1}, most - 1},
		{7, row{0, most, 1, 0}, 1},
		{3, row{most, most, 1 << 63}, 1 << 63},
		{31, row{0, most, most, most, most, most}, most},
		{1, row{0, most}, most},
		{2, row{most, most, 0, most, most, most}, 0},
		{224 + 7, row{99, 9, 4, 6, 99, 99}, 6},
	} {
		if got := conf.Level(x.m, x.marks); got != x.want {
			t.Errorf("Level(%d, %v): %d, not %d", x.m, x.marks, got, x.want)
		}
	}
}

// everyMarks calls f with all rows of marks out of ns, and with several marks of no node.
func everyMarks(ns []uint64, f func(marks row)) {
	n := len(ns)
	for i := range n * n * n * n * n {
		marks := row{}
		for node, rest := 1, i; node <= api.MaxNodes; node++ {
			marks[node] = ns[rest%n]
			rest /= n
		}
		marks[0] = ns[(i+i/n)%n]
		f(marks)
	}
}

func TestLevelOfEveryOrder(t *testing.T) {
	everyMarks([]uint64{0, 1, 7, 1 << 40, math.MaxUint64}, func(marks row) {
		for m := range 32 {
			if got, want := conf.Level(uint8(m), marks), levelByTrial(uint8(m), marks); got != want {
				t.Fatalf("Level(%d, %v): %d, not %d", m, marks, got, want)
			}
		}
	})
}

func TestLevelOfEveryMembership(t *testing.T) {
	everyMarks([]uint64{0, 5, 1 << 63}, func(marks row) {
		for m := range 256 {
			if got, want := conf.Level(uint8(m), marks), levelByTrial(uint8(m), marks); got != want {
				t.Fatalf("Level(%d, %v): %d, not %d", m, marks, got, want)
			}
		}
	})
}

// TestQuorumsMeet: what Won calls majorities of what Near calls near, be they votes with bits of no member or not.
func TestQuorumsMeet(t *testing.T) {
	var majorities [256][]uint8
	for m := range 256 {
		for votes := range 256 {
			if conf.Won(uint8(m), uint8(votes)) {
				majorities[m] = append(majorities[m], uint8(votes))
			}
		}
		if (len(majorities[m]) > 0) != (m%32 != 0) {
			t.Errorf("%d has %d majorities", m, len(majorities[m]))
		}
	}
	for a := range 256 {
		for b := range 256 {
			if conf.Near(uint8(a), uint8(b)) {
				meet(t, uint8(a), uint8(b), majorities[a], majorities[b])
			}
		}
	}
}

func meet(t *testing.T, a, b uint8, ofA, ofB []uint8) {
	t.Helper()
	for _, x := range ofA {
		for _, y := range ofB {
			if a&b&x&y%32 == 0 {
				t.Fatalf("of %d the majority %d and of %d the majority %d", a, x, b, y)
			}
		}
	}
}

// TestNotNearMayNotMeet: the trial above tells something, as there are memberships of which two majorities do not meet.
func TestNotNearMayNotMeet(t *testing.T) {
	if !conf.Won(7, 3) || !conf.Won(28, 28) || conf.Near(7, 28) {
		t.Error("7 and 28 have majorities that do not meet")
	}
}

func TestChangesAreNear(t *testing.T) {
	for m := range 256 {
		for node := range 256 {
			if got, e := conf.Add(uint8(m), uint8(node)); e == api.OK && (!conf.Near(uint8(m), got) || !conf.Near(got, uint8(m))) {
				t.Errorf("Add(%d, %d) is not near: %d", m, node, got)
			}
			if got, e := conf.Out(uint8(m), uint8(node)); e == api.OK && (!conf.Near(uint8(m), got) || !conf.Near(got, uint8(m))) {
				t.Errorf("Out(%d, %d) is not near: %d", m, node, got)
			}
		}
	}
}

func TestLevelIsReached(t *testing.T) {
	ns := []uint64{0, 3, 8, math.MaxUint64}
	everyMarks(ns, func(marks row) {
		for m := range 256 {
			level := conf.Level(uint8(m), marks)
			for _, n := range []uint64{0, 1, 3, 4, 8, 9, math.MaxUint64 - 1, math.MaxUint64} {
				there := reaching(uint8(m), marks, n)
				if m%32 != 0 && int(there) == m%32 && n > level {
					t.Fatalf("Level(%d, %v): %d, but all reach %d", m, marks, level, n)
				}
				if n > level && conf.Won(uint8(m), there) {
					t.Fatalf("Level(%d, %v): %d, but a majority reaches %d", m, marks, level, n)
				}
			}
			if m%32 != 0 && !conf.Won(uint8(m), reaching(uint8(m), marks, level)) {
				t.Fatalf("Level(%d, %v): %d, which no majority reaches", m, marks, level)
			}
		}
	})
}
