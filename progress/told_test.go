package progress_test

import (
	"math/rand"
	"testing"

	"wapentake/progress"
)

// P12.1: New has the entry behind the last one as the next, and nothing else.
func TestNew(t *testing.T) {
	for _, last := range append([]uint64{7, 99}, marks...) {
		same(t, "New", progress.New(last), peer{Next: last + 1})
	}
}

// P12.1: the chapter's examples.
func TestToldExamples(t *testing.T) {
	p := progress.New(7)
	same(t, "New(7)", p, peer{0, 8, 0, 0, 0})
	q := p.Told(true, 9, 3)
	same(t, "Told(true, 9, 3)", q, peer{9, 10, 3, 0, 0})
	same(t, "Told(false, 4, 2)", q.Told(false, 4, 2), peer{9, 10, 3, 0, 0})
	same(t, "Told(false, 4, 1) of the first", p.Told(false, 4, 1), peer{0, 5, 1, 0, 0})
	s := progress.New(0).Send(6).SectionTold(6, 4)
	same(t, "Told(true, 6, 0)", s.Told(true, 6, 0), peer{6, 7, 0, 0, 0})
}

type told struct {
	ok           bool
	index, round uint64
	want         peer
}

// P12.1: every edge of Told, on a peer to which a snapshot above Next is sent.
func TestToldEdges(t *testing.T) {
	p := peer{Match: 10, Next: 15, Round: 7, Snap: 20, Section: 3}
	for _, x := range []told{
		{true, 0, 7, p},
		{true, 9, 7, p},
		{true, 10, 7, p},
		{true, 11, 7, peer{11, 15, 7, 20, 3}},
		{true, 13, 7, peer{13, 15, 7, 20, 3}},
		{true, 14, 7, peer{14, 15, 7, 20, 3}},
		{true, 15, 7, peer{15, 16, 7, 20, 3}},
		{true, 19, 7, peer{19, 20, 7, 20, 3}},
		{true, 20, 7, peer{20, 21, 7, 0, 0}},
		{true, 21, 7, peer{21, 22, 7, 0, 0}},
		{true, 1<<62 - 1, 7, peer{1<<62 - 1, 1 << 62, 7, 0, 0}},
		{false, 0, 7, peer{10, 11, 7, 20, 3}},
		{false, 9, 7, peer{10, 11, 7, 20, 3}},
		{false, 10, 7, peer{10, 11, 7, 20, 3}},
		{false, 11, 7, peer{10, 12, 7, 20, 3}},
		{false, 13, 7, peer{10, 14, 7, 20, 3}},
		{false, 14, 7, p},
		{false, 15, 7, p},
		{false, 16, 7, p},
		{false, 20, 7, p},
		{false, 21, 7, p},
		{false, 1<<62 - 1, 7, p},
		{true, 10, 0, p},
		{true, 10, 6, p},
		{true, 10, 8, peer{10, 15, 8, 20, 3}},
		{false, 14, 0, p},
		{false, 14, 6, p},
		{false, 14, 8, peer{10, 15, 8, 20, 3}},
		{true, 10, 1<<64 - 1, peer{10, 15, 1<<64 - 1, 20, 3}},
		{false, 14, 1<<64 - 1, peer{10, 15, 1<<64 - 1, 20, 3}},
	} {
		if got := p.Told(x.ok, x.index, x.round); got != x.want {
			t.Errorf("Told(%v, %d, %d): %v, not %v", x.ok, x.index, x.round, got, x.want)
		}
	}
}

// P12.1: a snapshot that Match has already reached is over with the next answer that is ok, even if it tells nothing new.
func TestToldEndsASnapshotThatMatchReached(t *testing.T) {
	for _, snap := range []uint64{1, 9, 10} {
		p := peer{Match: 10, Next: 11, Snap: snap, Section: 2}
		same(t, "ok", p.Told(true, 0, 0), peer{Match: 10, Next: 11})
		same(t, "not ok", p.Told(false, 40, 0), p)
	}
	p := peer{Match: 10, Next: 11, Snap: 11, Section: 2}
	same(t, "a snapshot above Match", p.Told(true, 10, 0), p)
}

// P12.1: Told of every small peer, sound or not.
func TestToldOfEveryPeer(t *testing.T) {
	everyPeer(func(p peer) {
		for index := range uint64(8) {
			for round := range uint64(4) {
				same(t, "ok", p.Told(true, index, round), toldByHand(p, true, index, round))
				same(t, "not ok", p.Told(false, index, round), toldByHand(p, false, index, round))
			}
		}
	})
}

// P12.1: Told of peers whose fields are far apart.
func TestToldOfAnyPeer(t *testing.T) {
	r := rand.New(rand.NewSource(12))
	for range 100000 {
		p, ok := anyPeer(r), r.Intn(2) == 0
		near := []uint64{p.Match, p.Next, p.Snap}[r.Intn(3)]
		index, round := anyIndex(r, near), rounds[r.Intn(len(rounds))]
		if got, want := p.Told(ok, index, round), toldByHand(p, ok, index, round); got != want {
			t.Fatalf("%v, Told(%v, %d, %d): %v, not %v", p, ok, index, round, got, want)
		}
	}
}

// P12.1: of indexes beyond the supported ones, only that the calls return.
func TestIndexesBeyond(t *testing.T) {
	for _, a := range beyond {
		progress.New(a).Needs(a)
		for _, b := range beyond {
			for _, c := range beyond {
				p := peer{Match: a, Next: b, Round: c, Snap: c, Section: 255}
				for _, n := range beyond {
					p.Told(true, n, n)
					p.Told(false, n, n)
					p.Needs(n)
					p.Send(n)
					p.SectionTold(n, uint8(n))
				}
			}
		}
	}
}
