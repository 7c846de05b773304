package progress_test

import (
	"math/rand"
	"testing"

	"wapentake/progress"
)

// call is one call of a method that returns a peer: 't' and 'f' (Told, ok and not), 's' (Send), 'l' (SectionTold).
type call struct {
	kind         byte
	index, round uint64
	lacking      uint8
}

func (c call) of(p peer) peer {
	switch c.kind {
	case 't':
		return p.Told(true, c.index, c.round)
	case 'f':
		return p.Told(false, c.index, c.round)
	case 's':
		return p.Send(c.index)
	}
	return p.SectionTold(c.index, c.lacking)
}

// lawful fails if the call c may not make q out of the sound peer p, by P12.4 and P12.5.
func lawful(t *testing.T, p peer, c call, q peer) {
	t.Helper()
	var fault string
	switch {
	case !isSound(q):
		fault = "not sound"
	case q.Match < p.Match:
		fault = "Match decreased"
	case q.Round < p.Round:
		fault = "Round decreased"
	case q.Next < p.Next && c.kind != 'f':
		fault = "Next decreased without a Told that is not ok"
	case q.Next <= p.Match || q.Next <= q.Match:
		fault = "Next decreased to Match or below"
	case q.Match != p.Match && c.kind != 't':
		fault = "Match changed without a Told that is ok"
	case q.Snap != p.Snap && c.kind == 'l':
		fault = "a report about a section ended a snapshot"
	case q.Snap != p.Snap && c.kind == 'f':
		fault = "a Told that is not ok ended a snapshot"
	case q.Snap != p.Snap && c.kind == 't' && (q.Match < p.Snap || q.Snap != 0):
		fault = "a snapshot ended ahead of its end"
	}
	if fault != "" {
		t.Fatalf("%s: %v, %c %+v: %v", fault, p, c.kind, c, q)
	}
}

// P12.4, P12.5: every call on every small sound peer.
func TestLawsOfEverySoundPeer(t *testing.T) {
	everySound(func(p peer) {
		for index := range uint64(8) {
			for round := range uint64(4) {
				for _, kind := range []byte("tf") {
					c := call{kind: kind, index: index, round: round}
					lawful(t, p, c, c.of(p))
				}
			}
			c := call{kind: 's', index: index}
			lawful(t, p, c, c.of(p))
			for _, lacking := range sections {
				c := call{kind: 'l', index: index, lacking: lacking}
				lawful(t, p, c, c.of(p))
			}
		}
	})
}

// anyCall is a call whose numbers are often close to p's.
func anyCall(r *rand.Rand, p peer) call {
	near := []uint64{p.Match, p.Next, p.Snap, 3}[r.Intn(4)]
	if r.Intn(20) > 0 {
		near = min(near, 1000)
	}
	c := call{kind: "tffsll"[r.Intn(6)], index: min(near+2, 1<<62-1)}
	c.index -= min(c.index, uint64(r.Intn(5)))
	if r.Intn(40) == 0 {
		c.index = marks[r.Intn(len(marks))]
	}
	c.round = p.Round + uint64(r.Intn(3))
	c.round -= min(c.round, uint64(r.Intn(4)))
	c.lacking = sections[r.Intn(len(sections))]
	if c.kind == 'l' && r.Intn(2) == 0 {
		c.index = p.Snap
	}
	return c
}

// P12.1 to P12.5: rows of calls that start from a new peer, or from any sound one.
func TestLawsOverRowsOfCalls(t *testing.T) {
	r := rand.New(rand.NewSource(124))
	for row := range 4000 {
		p := progress.New(uint64(r.Intn(6)))
		if row%2 == 1 {
			p = anyPeer(r)
		}
		for range 60 {
			c := anyCall(r, p)
			q := c.of(p)
			lawful(t, p, c, q)
			same(t, "by hand", q, byHand(p, c))
			p = q
		}
	}
}

// byHand is what the chapter says that c returns.
func byHand(p peer, c call) peer {
	switch c.kind {
	case 't', 'f':
		return toldByHand(p, c.kind == 't', c.index, c.round)
	case 's':
		return sendByHand(p, c.index)
	}
	return sectionByHand(p, c.index, c.lacking)
}

// P12.4: Told with ok false, again and again, brings Next down to right above Match and no further.
func TestNextGoesNoLower(t *testing.T) {
	p := progress.New(50).Told(true, 20, 1)
	for index := uint64(60); index > 0; index-- {
		p = p.Told(false, index-1, 1)
		want := min(51, max(21, index))
		same(t, "Told", p, peer{Match: 20, Next: want, Round: 1})
	}
}

// follower is a node that stores the sections of a snapshot, and may lose them.
type follower struct {
	has [5]bool
}

// take stores a section, and tells the first one that is missing: 5, if none is.
func (f *follower) take(section uint8) uint8 {
	f.has[section] = true
	for n, has := range f.has {
		if !has {
			return uint8(n)
		}
	}
	return 5
}

// P12.5: a node that loses sections is sent them again, and the snapshot is complete only when its log extends to it.
func TestSectionsThatGetLost(t *testing.T) {
	r := rand.New(rand.NewSource(125))
	const snap = 30
	for range 500 {
		p, f := progress.New(40).Told(false, 3, 1).Send(snap), follower{}
		for range 1000 {
			if r.Intn(8) == 0 {
				f.has[r.Intn(5)] = false
			}
			lacking := f.take(p.Section)
			p = p.SectionTold(snap, lacking).Send(snap)
			if p.Match != 0 || p.Snap != snap || p.Next != 4 {
				t.Fatalf("the sections' reports made it %v", p)
			}
			if lacking == 5 {
				break
			}
			if p.Section != lacking {
				t.Fatalf("section %d is missing, but %d is due", lacking, p.Section)
			}
		}
		if f.has != [5]bool{true, true, true, true, true} {
			t.Fatal("not all sections arrived")
		}
		same(t, "Told ahead of it", p.Told(true, snap-1, 1), peer{snap - 1, snap, 1, snap, p.Section})
		same(t, "Told up to it", p.Told(true, snap, 1), peer{snap, snap + 1, 1, 0, 0})
	}
}
