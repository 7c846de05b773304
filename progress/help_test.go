package progress_test

import (
	"math/rand"
	"testing"

	"wapentake/progress"
)

type peer = progress.Peer

// marks are indexes that lie close to each other, at both ends of what is supported, and around where a narrower integer would end.
var marks = []uint64{0, 1, 2, 3, 5, 255, 256, 1<<32 - 1, 1 << 32, 1<<62 - 2, 1<<62 - 1}

// rounds are numbers of rounds: any there are.
var rounds = []uint64{0, 1, 2, 1 << 32, 1<<63 - 1, 1 << 63, 1<<64 - 1}

// beyond are indexes of which nothing is promised but that the call returns.
var beyond = []uint64{0, 1, 1 << 62, 1<<62 + 1, 1<<63 - 1, 1 << 63, 1<<64 - 2, 1<<64 - 1}

// sections are numbers that are told as those of sections: the first five are.
var sections = []uint8{0, 1, 2, 3, 4, 5, 6, 127, 128, 132, 254, 255}

// isSound is by the chapter's words.
func isSound(p peer) bool {
	return p.Match < p.Next && p.Section < 5 && !(p.Snap == 0 && p.Section != 0)
}

// everyPeer goes through the peers of small fields, sound or not.
func everyPeer(do func(peer)) {
	for match := range uint64(5) {
		for next := range uint64(6) {
			for snap := range uint64(5) {
				for section := range uint8(6) {
					do(peer{Match: match, Next: next, Round: 2, Snap: snap, Section: section})
				}
			}
		}
	}
}

// everySound goes through the sound ones of them.
func everySound(do func(peer)) {
	everyPeer(func(p peer) {
		if isSound(p) {
			do(p)
		}
	})
}

// anyIndex is a number that is often close to n.
func anyIndex(r *rand.Rand, n uint64) uint64 {
	switch r.Intn(3) {
	case 0:
		return marks[r.Intn(len(marks))]
	case 1:
		return min(n+uint64(r.Intn(4)), 1<<62-1)
	}
	return n - min(n, uint64(r.Intn(4)))
}

// anyPeer is a sound peer with any fields.
func anyPeer(r *rand.Rand) peer {
	p := peer{Match: anyIndex(r, 4), Round: rounds[r.Intn(len(rounds))]}
	p.Next = max(anyIndex(r, p.Match+2), p.Match+1)
	if r.Intn(3) > 0 {
		p.Snap = anyIndex(r, p.Match+1)
	}
	if p.Snap != 0 {
		p.Section = uint8(r.Intn(5))
	}
	return p
}

// theGreater is one of a and b that is not below the other one.
func theGreater(a, b uint64) uint64 {
	if a < b {
		return b
	}
	return a
}

// theLesser is one of a and b that is not above the other one.
func theLesser(a, b uint64) uint64 {
	if a < b {
		return a
	}
	return b
}

// toldByHand is what P12.1 says of Told, word by word.
func toldByHand(p peer, ok bool, index, round uint64) peer {
	q := p
	q.Round = theGreater(p.Round, round)
	if ok {
		q.Match = theGreater(p.Match, index)
		q.Next = theGreater(p.Next, q.Match+1)
		if !(q.Match < p.Snap) {
			q.Snap = 0
			q.Section = 0
		}
		return q
	}
	q.Next = theLesser(p.Next, index+1)
	if q.Next < p.Match+1 {
		q.Next = p.Match + 1
	}
	return q
}

// sendByHand is what P12.2 says of Send.
func sendByHand(p peer, snap uint64) peer {
	if p.Snap == snap {
		return p
	}
	return peer{Match: p.Match, Next: p.Next, Round: p.Round, Snap: snap}
}

// sectionByHand is what P12.3 says of SectionTold.
func sectionByHand(p peer, snap uint64, lacking uint8) peer {
	if p.Snap != snap || snap == 0 || lacking > 4 {
		return p
	}
	return peer{Match: p.Match, Next: p.Next, Round: p.Round, Snap: p.Snap, Section: lacking}
}

func same(t *testing.T, what string, got, want peer) {
	t.Helper()
	if got != want {
		t.Fatalf("%s: %v, not %v", what, got, want)
	}
}
