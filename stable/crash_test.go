package stable_test

import (
	"math/rand"
	"slices"
	"strings"
	"testing"

	"wapentake/api"
	"wapentake/disk"
	"wapentake/stable"
)

// scripts are rows of calls; each of them is interrupted at each of its operations.
func scripts() map[string][]call {
	return map[string][]call{
		"opens": {opening(), opening(), opening()},
		"saves": {opening(), saving(state(1, 1)), saving(state(2, 2), noop(1, 1), data(2, 1, "body")), saving(data(2, 2, ""), noop(1, 2), noop(2, 3), state(3, 0), noop(3, 3)), saving(), opening()},
		"cuts":  {opening(), cutting(full(1, 1)), saving(noops(2, 1, 1, 1, 2)...), cutting(bare(3, 1)), cutting(full(4, 2)), saving(noop(5, 2)), cutting(full(99999999, 1)), cutting(full(100000000, 2)), opening(), saving(noop(100000001, 2))},
		"another segment": {
			opening(), saving(noops(1, 1, 1, 1, 2)...), cutting(full(2, 1)), saving(manyStates(31)...), saving(state(7, 1), data(5, 2, "body")), opening(),
		},
		"another segment by the last record": {opening(), saving(manyStates(31)...), saving(noop(1, 1)), saving(noop(2, 1))},
		"a long save":                        {opening(), saving(append(noops(1, 1, 2, 2), append(manyStates(31), noops(2, 2, 4)...)...)...), cutting(full(2, 2))},
	}
}

func TestPowerLostAtEachOperation(t *testing.T) {
	for name, calls := range scripts() {
		t.Run(name, func(t *testing.T) {
			t.Parallel()
			for i, x := range calls {
				calm := newPair()
				calm.does(t, calls[:i]...)
				n := calm.operations(t, x)
				for fuse := 1; fuse <= n+1; fuse++ {
					p := newPair()
					p.does(t, calls[:i]...)
					p.interrupted(t, x, fuse, fuse <= n)
				}
			}
		})
	}
}

// interrupted makes a call with a fuse, and demands of what is left of it that it lasts.
func (p *pair) interrupted(t *testing.T, x call, fuse int, burns bool) {
	t.Helper()
	may := p.m.may(x)
	before := p.s.Kept()
	if x.kind == opens {
		before = stable.Kept{}
	}
	p.fuse(fuse)
	if burns {
		are(t, api.ErrDown, p.do(t, x))
		isKept(t, p.s.Kept(), before)
	} else {
		p.does(t, x)
		// It returned OK: the complete call must be there.
		may = may[len(may)-1:]
		isKept(t, p.s.Kept(), may[0])
	}
	for keep := range p.unsynced() + 2 {
		for _, torn := range []int{0, 1, 6, -1} {
			q := p.twin()
			q.crash(keep, torn)
			q.finds(t, may)
		}
	}
	for _, keep := range keeps(p.unsynced()) {
		q := p.twin()
		q.crash(keep, fuse)
		q.lasts(t, may)
	}
}

// finds demands of disks after a crash that an Open finds one of these states; it returns it, and how many operations that took.
func (p *pair) finds(t *testing.T, may []stable.Kept) (k stable.Kept, n int) {
	t.Helper()
	q := p.twin()
	n = q.operations(t, opening())
	k = q.s.Kept()
	if !slices.ContainsFunc(may, func(x stable.Kept) bool { return equal(x, k) }) {
		t.Fatalf("%s\nis none of %d states, of which the first is %s", brief(k), len(may), brief(may[0]))
	}
	q.does(t, opening())
	isKept(t, q.s.Kept(), k)
	return k, n
}

// unsynced is how many records a crash may lose.
func (p *pair) unsynced() int {
	n := 0
	for _, name := range p.d.List() {
		all, synced := p.d.Records(name)
		n += all - synced
	}
	return n
}

// keeps are choices of how many records are left of so many, all of them unless they are many.
func keeps(n int) []int {
	all := []int{-1}
	for keep := range n + 2 {
		if keep <= 2 || keep >= n-2 || keep == n/2 {
			all = append(all, keep)
		}
	}
	return all
}

// lasts demands of disks after a crash that an Open finds one of these states, and that some that are interrupted change nothing.
func (p *pair) lasts(t *testing.T, may []stable.Kept) {
	t.Helper()
	k, n := p.finds(t, may)
	for fuse := 1; fuse <= n; fuse++ {
		if fuse > 4 && fuse < n-4 && fuse != n/2 {
			continue
		}
		q := p.twin()
		q.fuse(fuse)
		are(t, api.ErrDown, q.do(t, opening()))
		for _, keep := range keeps(q.unsynced()) {
			q.twin().opensAgain(t, keep, fuse, k)
		}
	}
}

// opensAgain lets the disks crash once more, and interrupts another Open, ahead of one that must find this state.
func (p *pair) opensAgain(t *testing.T, keep, fuse int, k stable.Kept) {
	t.Helper()
	p.crash(keep, fuse)
	q := p.twin()
	q.fuse(1 + (fuse+keep+2)%5)
	if q.do(t, opening()) == api.OK {
		isKept(t, q.s.Kept(), k)
	}
	q.crash(keep-1, keep)
	for _, u := range []*pair{p, q} {
		u.does(t, opening())
		isKept(t, u.s.Kept(), k)
	}
}

// TestStraysDoNotLast: an Open is interrupted on a disk with much to delete, on which the newest segment does not count.
func TestStraysDoNotLast(t *testing.T) {
	t.Parallel()
	p := opened(t, saving(noops(1, 1, 1)...), cutting(full(1, 1)), saving(noop(3, 1)))
	k := p.s.Kept()
	for _, d := range []*disk.Disk{p.d, p.m.d} {
		for _, n := range []uint64{1, 3, 100000000, 99999999} {
			put(t, d, segName(n), segmentByHand(0, []api.Rec{state(9, 9)})[0])
		}
		for _, index := range []uint64{2, 99999999, 100000000} {
			put(t, d, snapName(index), snapByHand(full(index, 1))[:4]...)
		}
		put(t, d, "another", "x")
	}
	p.twin().lasts(t, []stable.Kept{k})
	// Once more with a file that is cut, under the name of a snapshot to come.
	for _, d := range []*disk.Disk{p.d, p.m.d} {
		are(t, api.OK, d.Append(snapName(3), snapByHand(full(3, 1))[0]))
	}
	p.crash(0, 3)
	p.twin().lasts(t, []stable.Kept{k})
	p.does(t, opening(), cutting(full(3, 1)), opening())
}

// TestAPrefixOfASave: which state is found goes by the number of records that are left.
func TestAPrefixOfASave(t *testing.T) {
	recs := []api.Rec{state(4, 1), noop(1, 1), noop(2, 2), noop(1, 3), state(5, 0), data(2, 3, "body")}
	for fuse := 1; fuse <= len(recs)+1; fuse++ {
		for keep := range len(recs) + 1 {
			d := disk.New()
			s, _ := open(t, d)
			d.Fuse(fuse)
			are(t, api.ErrDown, s.Save(recs...))
			isKept(t, s.Kept(), stable.Kept{})
			want, _ := afterByHand(stable.Kept{}, recs[:min(keep, fuse-1)]...)
			_, k := open(t, crashed(d, keep, 2))
			isKept(t, k, want)
		}
	}
}

// TestAPartOfACut: the snapshot is there as soon as the whole base of its segment is.
func TestAPartOfACut(t *testing.T) {
	before := stable.Kept{Term: 2, Vote: 1, Snap: full(1, 1), Entries: entriesOf(noops(2, 1, 1, 1))}
	after, _ := cutByHand(before, full(2, 1))
	const rows, base = 6, 4 // a head, a state and two entries
	for fuse := 1; fuse <= rows+1+base+1+2; fuse++ {
		for keep := range rows + 1 {
			d := disk.New()
			s, _ := open(t, d)
			are(t, api.OK, s.Cut(full(1, 1)), s.Save(append(baseByHand(before)[:1], noops(2, 1, 1, 1)...)...))
			d.Fuse(fuse)
			are(t, api.ErrDown, s.Cut(full(2, 1)))
			isKept(t, s.Kept(), before)
			want := before
			if fuse > rows+1+base+1 || fuse == rows+1+base+1 && keep >= base {
				want = after
			}
			u := crashed(d, keep, 2)
			_, k := open(t, u)
			isKept(t, k, want)
			files := u.List()
			if !slices.Equal(files[1:], []string{snapName(want.Snap.Index)}) {
				t.Fatalf("files %q", files)
			}
		}
	}
}

// TestAtOnceAndOneByOne: the same records lead to the same state.
func TestAtOnceAndOneByOne(t *testing.T) {
	random := rand.New(rand.NewSource(5))
	for range 200 {
		a, b := opened(t), opened(t)
		for range 4 {
			recs := someRecords(random, a.s.Kept(), random.Intn(40), false)
			a.does(t, saving(recs...))
			for _, r := range recs {
				b.does(t, saving(r))
			}
			isKept(t, b.s.Kept(), a.s.Kept())
			for _, p := range []*pair{a.twin(), b.twin()} {
				p.crash(0, 0)
				p.does(t, opening())
				isKept(t, p.s.Kept(), a.s.Kept())
			}
			if snap := full(a.m.k.Snap.Index+uint64(random.Intn(4)), uint64(random.Intn(3))); snap.Index > a.m.k.Snap.Index {
				a.does(t, cutting(snap))
				b.does(t, cutting(snap))
			}
		}
	}
}

// someRecords are so many that suit a state, one behind the other; a wrong one may be among them if that is asked for.
func someRecords(random *rand.Rand, k stable.Kept, n int, mayBeWrong bool) []api.Rec {
	var recs []api.Rec
	for range n {
		r := state(uint64(random.Intn(5)), uint8(random.Intn(6)))
		if random.Intn(3) > 0 {
			at := len(k.Entries)
			if random.Intn(6) == 0 {
				at = random.Intn(at + 1)
			}
			term := max(k.Snap.Term, 1)
			if at > 0 {
				term = k.Entries[at-1].Term
			}
			if random.Intn(4) == 0 {
				term++
			}
			r = data(k.Snap.Index+uint64(at)+1, term, strings.Repeat("x", random.Intn(20)))
		}
		if mayBeWrong && random.Intn(60) == 0 {
			r.Entry.Index++
		}
		recs = append(recs, r)
		k, _ = afterByHand(k, r)
	}
	return recs
}

// TestAnyCalls: rows of calls, fuses and crashes at random, each held against the model.
func TestAnyCalls(t *testing.T) {
	t.Parallel()
	for seed := range int64(300) {
		random := rand.New(rand.NewSource(seed))
		p := opened(t)
		for range 60 {
			k := p.m.k
			x := saving(someRecords(random, k, random.Intn(9), true)...)
			switch random.Intn(12) {
			case 0:
				x = opening()
			case 1, 2:
				x = cutting(full(k.Snap.Index+uint64(random.Intn(5)), max(k.Snap.Term, uint64(random.Intn(4)))))
			case 3:
				p.fuse(random.Intn(30))
			}
			may := p.m.may(x)
			e := p.do(t, x)
			if e == api.OK {
				may = may[len(may)-1:]
			}
			if p.d.Down() || random.Intn(12) == 0 {
				p.crash(random.Intn(12), random.Intn(40))
				p.does(t, opening())
				if k := p.s.Kept(); !slices.ContainsFunc(may, func(x stable.Kept) bool { return equal(x, k) }) {
					t.Fatalf("seed %d: %s behind %v", seed, brief(k), x)
				}
			}
		}
	}
}

// side is a store on a disk.
type side struct {
	s *stable.Store
	d *disk.Disk
}

// step makes a call, or one of the disk's; fuses and crashes are kinds beyond those of calls.
func (x *side) step(c call, fuse int, crash api.Crash) api.Errno {
	e := api.OK
	switch c.kind {
	case opens:
		x.s, _, e = stable.Open(x.d, &table)
	case saves:
		e = x.s.Save(c.recs...)
	case cuts:
		e = x.s.Cut(c.snap)
	case cuts + 1:
		x.d.Fuse(fuse)
	default:
		x.d.Crash(crash)
		x.d.Start()
	}
	return e
}

// alike returns a call that differs from x in Bodies and sections alone.
func alike(random *rand.Rand, x call) call {
	x.recs = slices.Clone(x.recs)
	for i := range x.recs {
		if x.recs[i].Kind == api.RecEntry {
			x.recs[i].Entry.Body = strings.Repeat("\x00", random.Intn(400))
		}
	}
	for i := range x.snap.Sections {
		x.snap.Sections[i] = strings.Repeat("\xff", random.Intn(300))
	}
	return x
}

// shape is a state without Bodies and sections.
func shape(k stable.Kept) stable.Kept {
	k.Snap.Sections = [api.Queues]string{}
	k.Entries = slices.Clone(k.Entries)
	for i := range k.Entries {
		k.Entries[i].Body = ""
	}
	return k
}

// TestStoresThatDifferInBodiesAlone go the same way: the same errors, the same numbers of records, the same states but for Bodies and sections.
func TestStoresThatDifferInBodiesAlone(t *testing.T) {
	t.Parallel()
	for seed := range int64(300) {
		random := rand.New(rand.NewSource(seed))
		a, b := &side{d: disk.New()}, &side{d: disk.New()}
		for step := range 60 {
			k := a.s.Kept()
			x := saving(someRecords(random, k, random.Intn(9), true)...)
			switch kind := random.Intn(12); kind {
			case 0:
				x = opening()
			case 1, 2:
				x = cutting(full(k.Snap.Index+uint64(random.Intn(5)), max(k.Snap.Term, uint64(random.Intn(4)))))
			case 3, 4:
				x.kind = cuts + kind - 2
			}
			fuse, keep := random.Intn(30), []int{random.Intn(12)}
			e := a.step(x, fuse, api.Crash{Keep: keep, Torn: []int{random.Intn(60)}})
			if f := b.step(alike(random, x), fuse, api.Crash{Keep: keep, Torn: []int{random.Intn(60)}}); e != f {
				t.Fatalf("seed %d: the step %d returned %d and %d", seed, step, e, f)
			}
			goTheSameWay(t, a, b)
			if a.d.Down() {
				c := call{kind: cuts + 2}
				a.step(c, 0, api.Crash{Keep: keep, Torn: []int{random.Intn(60)}})
				b.step(c, 0, api.Crash{Keep: keep, Torn: []int{random.Intn(60)}})
				a.step(opening(), 0, api.Crash{})
				b.step(opening(), 0, api.Crash{})
				goTheSameWay(t, a, b)
			}
		}
	}
}

// goTheSameWay demands that two sides tell the same, but for Bodies and sections.
func goTheSameWay(t *testing.T, a, b *side) {
	t.Helper()
	isKept(t, shape(b.s.Kept()), shape(a.s.Kept()))
	if a.d.Down() != b.d.Down() || a.d.Fused() != b.d.Fused() || !slices.Equal(a.d.List(), b.d.List()) {
		t.Fatalf("down %v, %v; fuses of %d, %d; files %q, %q", a.d.Down(), b.d.Down(), a.d.Fused(), b.d.Fused(), a.d.List(), b.d.List())
	}
	for _, name := range a.d.List() {
		all, synced := a.d.Records(name)
		if others, othersSynced := b.d.Records(name); all != others || synced != othersSynced {
			t.Fatalf("%q has %d and %d records, %d and %d of them synced", name, all, others, synced, othersSynced)
		}
	}
}
