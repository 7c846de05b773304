package raft_test

import (
	"math"
	"math/rand"
	"testing"

	"wapentake/api"
	"wapentake/raft"
)

// extremes are numbers at the ends of their ranges.
var extremes = []uint64{0, 1, 2, 5, 1 << 40, 1<<62 - 1, 1 << 62, 1<<63 - 1, 1 << 63, greatest - 2, greatest - 1, greatest}

func anyExtreme(random *rand.Rand) uint64 {
	return extremes[random.Intn(len(extremes))]
}

func anyByte(random *rand.Rand) uint8 {
	if random.Intn(4) == 0 {
		return uint8(random.Intn(256))
	}
	return uint8(random.Intn(9))
}

// extremeEntries are entries of any fields; most often their indexes are consecutive.
func extremeEntries(random *rand.Rand, index, term uint64) []entry {
	var entries []entry
	for range random.Intn(12) {
		index++
		if random.Intn(20) == 0 {
			index = anyExtreme(random)
		}
		entries = append(entries, entry{Index: index, Term: term, Kind: anyByte(random), Slot: anyByte(random), Body: anyBody(random)})
	}
	return entries
}

func extremeSnap(random *rand.Rand) api.Snap {
	return anySnap(random, anyExtreme(random), anyExtreme(random), anyByte(random))
}

// extremeMsg is a message of any fields to the node 1.
func extremeMsg(random *rand.Rand, r *raft.Raft) msg {
	x := msg{Kind: uint8(1 + random.Intn(7)), From: uint8(2 + random.Intn(4)), To: 1, Term: r.Term(), OK: random.Intn(4) > 0}
	x.Index, x.LogTerm, x.Commit, x.Round = anyExtreme(random), anyExtreme(random), anyExtreme(random), anyExtreme(random)
	x.Members, x.Section, x.Body = anyByte(random), anyByte(random), anyBody(random)
	if random.Intn(2) == 0 {
		x.Index, x.LogTerm = r.Last()
	}
	if random.Intn(20) == 0 {
		x.Term = anyExtreme(random)
	}
	if x.Kind == api.MSection {
		// Few enough to have all sections of one at times.
		x.Index, x.LogTerm, x.Members = extremes[uint64(len(extremes))-1-r.Term()%3], 3, 7
		x.Section = uint8(random.Intn(5))
	}
	x.Entries = extremeEntries(random, x.Index, x.LogTerm)
	return x
}

// R1: no call panics, whatever the numbers are, also those of which nothing else is promised.
func TestExtremes(t *testing.T) {
	for seed := range int64(1500) {
		random := rand.New(rand.NewSource(seed))
		k := kept{Term: anyExtreme(random), Vote: anyByte(random), Snap: extremeSnap(random)}
		k.Snap.Members |= uint8(1 + random.Intn(3))
		if random.Intn(2) == 0 {
			k.Entries = extremeEntries(random, k.Snap.Index, k.Snap.Term)
		}
		r, e := raft.New(1, k, random.Intn(30))
		if e != api.OK {
			continue
		}
		for range 200 {
			callAnything(random, r)
		}
	}
}

func callAnything(random *rand.Rand, r *raft.Raft) {
	switch random.Intn(9) {
	case 0, 1:
		r.Tick([]int{math.MinInt, 0, 10, math.MaxInt}[random.Intn(4)])
	case 2, 3, 4:
		r.Hear(extremeMsg(random, r), 10)
	case 5:
		r.Propose(anyByte(random), anyByte(random), api.Token{}, anyBody(random))
		r.Change(anyByte(random))
	case 6:
		r.Lead(anyByte(random))
		r.Read(anyExtreme(random))
	case 7:
		snap := extremeSnap(random)
		if random.Intn(2) == 0 {
			snap.Index = r.Commit()
			snap.Members = r.MembersAt(snap.Index)
			snap.Term = r.Snap().Term
		}
		r.Cut(snap)
	default:
		r.Match(anyByte(random))
		r.MembersAt(anyExtreme(random))
		r.Entries(anyExtreme(random), []int{math.MinInt, -1, 0, 1, math.MaxInt}[random.Intn(5)])
		r.Left()
	}
}
