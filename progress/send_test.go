package progress_test

import (
	"math/rand"
	"testing"

	"wapentake/progress"
)

// P12.2: the chapter's examples of Needs.
func TestNeedsExamples(t *testing.T) {
	p := progress.New(7).Told(false, 4, 1)
	if p.Needs(4) || !p.Needs(5) {
		t.Errorf("Needs of %v: %v, %v", p, p.Needs(4), p.Needs(5))
	}
}

// P12.2: the next entry was truncated if its index is not above first, whatever the other fields are.
func TestNeeds(t *testing.T) {
	everyPeer(func(p peer) {
		for first := range uint64(8) {
			if got, want := p.Needs(first), !(p.Next > first); got != want {
				t.Fatalf("%v, Needs(%d): %v", p, first, got)
			}
		}
	})
	for _, next := range marks {
		for _, first := range marks {
			if got, want := (peer{Next: next}).Needs(first), !(next > first); got != want {
				t.Fatalf("Next %d, Needs(%d): %v", next, first, got)
			}
		}
	}
}

// P12.2: the same snapshot goes on where it was; another one starts; 0 is none.
func TestSendEdges(t *testing.T) {
	p := peer{Match: 3, Next: 8, Round: 5, Snap: 6, Section: 2}
	none := peer{Match: 3, Next: 8, Round: 5}
	for _, x := range []struct {
		p    peer
		snap uint64
		want peer
	}{
		{p, 6, p},
		{p, 5, peer{3, 8, 5, 5, 0}},
		{p, 7, peer{3, 8, 5, 7, 0}},
		{p, 6 + 1<<32, peer{3, 8, 5, 6 + 1<<32, 0}},
		{p, 1<<62 - 1, peer{3, 8, 5, 1<<62 - 1, 0}},
		{p, 0, none},
		{none, 0, none},
		{none, 6, peer{3, 8, 5, 6, 0}},
		{none, 2, peer{3, 8, 5, 2, 0}},
	} {
		if got := x.p.Send(x.snap); got != x.want {
			t.Errorf("%v, Send(%d): %v, not %v", x.p, x.snap, got, x.want)
		}
	}
}

// P12.2: Send of every small peer, sound or not, and of peers whose fields are far apart.
func TestSendOfEveryPeer(t *testing.T) {
	everyPeer(func(p peer) {
		for snap := range uint64(8) {
			same(t, "Send", p.Send(snap), sendByHand(p, snap))
		}
	})
	r := rand.New(rand.NewSource(122))
	for range 20000 {
		p := anyPeer(r)
		snap := anyIndex(r, p.Snap)
		same(t, "Send", p.Send(snap), sendByHand(p, snap))
	}
}

// P12.3: the chapter's example: reports one after the other.
func TestSectionExample(t *testing.T) {
	p := progress.New(0).Send(6)
	same(t, "Send", p, peer{0, 1, 0, 6, 0})
	for _, x := range []struct {
		snap          uint64
		lacking, want uint8
	}{{6, 1, 1}, {5, 3, 1}, {6, 4, 4}, {6, 0, 0}, {6, 5, 0}} {
		p = p.SectionTold(x.snap, x.lacking)
		same(t, "SectionTold", p, peer{0, 1, 0, 6, x.want})
	}
}

// P12.3: a report counts if it is of the snapshot that is being sent, and of a section.
func TestSectionEdges(t *testing.T) {
	p := peer{Match: 3, Next: 8, Round: 5, Snap: 6, Section: 2}
	none := peer{Match: 3, Next: 8, Round: 5}
	for _, x := range []struct {
		p       peer
		snap    uint64
		lacking uint8
		want    peer
	}{
		{p, 6, 0, peer{3, 8, 5, 6, 0}},
		{p, 6, 1, peer{3, 8, 5, 6, 1}},
		{p, 6, 2, p},
		{p, 6, 3, peer{3, 8, 5, 6, 3}},
		{p, 6, 4, peer{3, 8, 5, 6, 4}},
		{p, 6, 5, p},
		{p, 6, 255, p},
		{p, 5, 4, p},
		{p, 7, 4, p},
		{p, 6 + 1<<32, 4, p},
		{p, 0, 4, p},
		{p, 0, 0, p},
		{none, 0, 0, none},
		{none, 0, 4, none},
		{none, 6, 4, none},
	} {
		if got := x.p.SectionTold(x.snap, x.lacking); got != x.want {
			t.Errorf("%v, SectionTold(%d, %d): %v, not %v", x.p, x.snap, x.lacking, got, x.want)
		}
	}
}

// P12.3: SectionTold of every small peer, sound or not, and of peers whose fields are far apart.
func TestSectionToldOfEveryPeer(t *testing.T) {
	everyPeer(func(p peer) {
		for snap := range uint64(8) {
			for lacking := range 256 {
				same(t, "SectionTold", p.SectionTold(snap, uint8(lacking)), sectionByHand(p, snap, uint8(lacking)))
			}
		}
	})
	r := rand.New(rand.NewSource(123))
	for range 20000 {
		p, lacking := anyPeer(r), sections[r.Intn(len(sections))]
		snap := anyIndex(r, p.Snap)
		same(t, "SectionTold", p.SectionTold(snap, lacking), sectionByHand(p, snap, lacking))
	}
}
