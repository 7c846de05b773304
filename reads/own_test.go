package reads_test

import (
	"math/rand"
	"runtime"
	"slices"
	"testing"

	"wapentake/reads"
)

// spoil changes all that an answer's memory holds, the spare capacity too.
func spoil(a answer) {
	all := a.reads[:cap(a.reads)]
	for n := range all {
		all[n] = read{77, 77, 77}
	}
	ids := a.ids[:cap(a.ids)]
	for n := range ids {
		ids[n] = 77
	}
}

// R4: what is returned is the caller's: changing it changes neither the list nor what is returned later.
func TestAnswersMayBeChanged(t *testing.T) {
	for seed := range int64(500) {
		random := rand.New(rand.NewSource(seed))
		r, m := reads.New(), model{}
		for while := range 200 {
			spoil(do(t, r, &m, anyCall(random, 20, while)))
		}
	}
}

// R4: later calls do not change what was returned, and no two answers share memory.
func TestAnswersStay(t *testing.T) {
	for seed := range int64(500) {
		random := rand.New(rand.NewSource(seed))
		r, m := reads.New(), model{}
		var got, copies []answer
		for while := range 200 {
			a := do(t, r, &m, anyCall(random, 20, while))
			got = append(got, a)
			copies = append(copies, answer{a.ok, a.count, slices.Clone(a.reads), slices.Clone(a.ids)})
		}
		for n := range got {
			if !got[n].is(copies[n]) {
				t.Fatalf("answer %d was %v, and became %v", n, copies[n], got[n])
			}
			spoil(got[n])
		}
	}
}

// R4: an answer whose spare capacity is appended to leaves the list as it is.
func TestAppendingToAnAnswer(t *testing.T) {
	r := with(t, ask(1), begin(1, 1), ask(2), begin(2, 2), ask(3), begin(3, 3), ask(4))
	first := r.Told(1)
	first = append(first, read{50, 50, 50}, read{51, 51, 51})
	areSteps(t, r, step{told(2), back(read{2, 2, 2}), 1, 1})
	ids := append(r.Drop(), 60, 61)
	areSteps(t, r, step{ask(5), yes(), 0, 1}, step{ask(6), yes(), 0, 2}, step{drop(), gone(5, 6), 0, 0})
	if !slices.Equal(ids, []uint64{3, 4, 60, 61}) || !slices.Equal(first, []read{{1, 1, 1}, {50, 50, 50}, {51, 51, 51}}) {
		t.Errorf("%v, %v", ids, first)
	}
}

// R3: two lists that are called in turns do not hear of each other.
func TestTwoLists(t *testing.T) {
	for seed := range int64(200) {
		random := rand.New(rand.NewSource(seed))
		a, b := reads.New(), reads.New()
		var inA, inB model
		for while := range 200 {
			c := anyCall(random, 12, while)
			if random.Intn(2) == 0 {
				do(t, a, &inA, c)
			} else {
				do(t, b, &inB, c)
			}
		}
	}
}

// heap is how much memory is in use.
func heap() int {
	runtime.GC()
	var m runtime.MemStats
	runtime.ReadMemStats(&m)
	return int(m.HeapAlloc)
}

// TestReadsThatPass: however many reads pass through a list, it keeps only those that are in it.
func TestReadsThatPass(t *testing.T) {
	const n = 300_000
	r := with(t, ask(0), begin(0, 0), ask(1), begin(1, 1), ask(2), begin(2, 2))
	empty := heap()
	for id := uint64(3); id < n; id++ {
		r.Ask(id)
		r.Begin(id, id)
		if list := r.Told(id - 3); !slices.Equal(list, []read{{id - 3, id - 3, id - 3}}) {
			t.Fatalf("Told(%d): %v", id-3, list)
		}
	}
	hasLen(t, r, 3, 0)
	if now := heap(); now-empty > n {
		t.Errorf("%d bytes for three reads", now-empty)
	}
	runtime.KeepAlive(r)
}
