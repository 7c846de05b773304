package logs_test

import (
	"math"
	"runtime"
	"slices"
	"strings"
	"testing"
	"unsafe"

	"wapentake/api"
	"wapentake/logs"
)

// isNothing demands that all methods of a log do nothing and return nothing.
func isNothing(t *testing.T, l *logs.Log) {
	t.Helper()
	for _, i := range []uint64{0, 1, 5, math.MaxUint64} {
		if e := l.Add(data(i, i, "new")); e != (api.Entry{}) {
			t.Errorf("Add: %v", e)
		}
		for _, entries := range [][]api.Entry{nil, noops(i+1, i), noops(1, 1, 1)} {
			if ok, match, fresh := l.Put(i, i, entries); ok || match != 0 || len(fresh) != 0 {
				t.Errorf("Put(%d, %d, %v): %v, %d, %v", i, i, entries, ok, match, fresh)
			}
		}
		l.Reset(i, i, 7)
		if e := l.Cut(i); e != api.ErrNone {
			t.Errorf("Cut(%d): %d", i, e)
		}
		if term, ok := l.Term(i); term != 0 || ok {
			t.Errorf("Term(%d): %d, %v", i, term, ok)
		}
		for _, n := range []int{math.MinInt, 0, 1, most} {
			if got := l.From(i, n); len(got) != 0 {
				t.Errorf("From(%d, %d): %v", i, n, got)
			}
		}
		if got := l.MembersAt(i); got != 0 {
			t.Errorf("MembersAt(%d): %d", i, got)
		}
		if l.AsNew(i, i) || l.AsNew(0, i) || l.AsNew(i, 0) {
			t.Errorf("AsNew of %d", i)
		}
		firstIndex, firstTerm := l.First()
		lastIndex, lastTerm := l.Last()
		members, at := l.Members()
		if firstIndex != 0 || firstTerm != 0 || lastIndex != 0 || lastTerm != 0 || members != 0 || at != 0 {
			t.Errorf("First %d %d, Last %d %d, Members %d %d", firstIndex, firstTerm, lastIndex, lastTerm, members, at)
		}
	}
}

func TestNil(t *testing.T) {
	isNothing(t, nil)
}

func TestNotMadeByNew(t *testing.T) {
	isNothing(t, new(logs.Log))
	isNothing(t, &logs.Log{})
	var l logs.Log
	isNothing(t, &l)
}

// TestMadeOfZeros: a log that New made of nothing but zeros is one.
func TestMadeOfZeros(t *testing.T) {
	l, e := logs.New(0, 0, 0)
	if e != api.OK {
		t.Fatalf("New: %d", e)
	}
	if term, ok := l.Term(0); term != 0 || !ok {
		t.Errorf("Term(0): %d, %v", term, ok)
	}
	if ok, match, fresh := l.Put(0, 0, nil); !ok || match != 0 || len(fresh) != 0 {
		t.Errorf("Put: %v, %d, %v", ok, match, fresh)
	}
	if e := l.Cut(0); e != api.OK {
		t.Errorf("Cut(0): %d", e)
	}
	if !l.AsNew(0, 0) {
		t.Error("AsNew")
	}
	if got := l.Add(noop(0, 0)); got != noop(1, 0) {
		t.Errorf("Add: %v", got)
	}
}

// given are arguments whose memory the test can change.
type given struct {
	body    []byte
	entries []api.Entry // with spare capacity
}

// give makes entries of these terms, from an index on, whose Bodies lie in the same bytes.
func give(index uint64, terms ...uint64) given {
	g := given{body: []byte("body")}
	g.entries = make([]api.Entry, 0, len(terms)+3)
	for i, e := range datas("", index, terms...) {
		e.Body = lying(g.body[i%len(g.body):])
		g.entries = append(g.entries, e)
	}
	spare := g.entries[len(terms):cap(g.entries)]
	for i := range spare {
		spare[i] = noop(99, 99)
	}
	return g
}

// isUnchanged demands that a call changed none of what it was given.
func (g given) isUnchanged(t *testing.T, index uint64, terms ...uint64) {
	t.Helper()
	other := give(index, terms...)
	if string(g.body) != "body" || !slices.Equal(g.entries[:cap(g.entries)], other.entries[:cap(other.entries)]) {
		t.Errorf("an argument was changed: %q, %v", g.body, g.entries[:cap(g.entries)])
	}
}

// spoil changes all that was given.
func (g given) spoil() {
	for i := range g.body {
		g.body[i] = '#'
	}
	clear(g.entries[:cap(g.entries)])
}

// spoil changes all memory of an answer, its spare capacity and the bytes of its Bodies too.
func spoil(entries []api.Entry) {
	for i, e := range entries {
		copy(unsafe.Slice(unsafe.StringData(e.Body), len(e.Body)), strings.Repeat("#", len(e.Body)))
		entries[i] = noop(99, 99)
	}
	clear(entries[:cap(entries)])
}

// areApart demands that no Body lies in another one's bytes.
func areApart(t *testing.T, all ...[]api.Entry) {
	t.Helper()
	flat := slices.Concat(all...)
	for i, a := range flat {
		for k, b := range flat {
			if i != k && liesIn(a.Body, b.Body) {
				t.Fatalf("%v and %v share memory", a, b)
			}
		}
	}
}

func TestArgumentsAreNotKept(t *testing.T) {
	first, second, third, single := give(5, 2, 3), give(7, 3), give(8, 4, 4), give(11, 5)
	l, e := logs.New(4, 2, 7, first.entries, second.entries)
	if e != api.OK {
		t.Fatalf("New: %d", e)
	}
	if ok, _, _ := l.Put(6, 3, append(slices.Clone(second.entries), third.entries...)); !ok {
		t.Fatal("Put is false")
	}
	if ok, _, _ := l.Put(7, 3, third.entries); !ok {
		t.Fatal("Put is false")
	}
	added := l.Add(single.entries[0])
	first.isUnchanged(t, 5, 2, 3)
	second.isUnchanged(t, 7, 3)
	third.isUnchanged(t, 8, 4, 4)
	single.isUnchanged(t, 11, 5)
	for _, g := range []given{first, second, third, single} {
		areApart(t, l.From(0, most), []api.Entry{added}, g.entries[:1])
	}
	want := slices.Concat(give(5, 2, 3).entries, give(7, 3).entries, give(8, 4, 4).entries, give(10, 5).entries)
	want[5].Body = "body"
	for _, g := range []given{first, second, third, single} {
		g.spoil()
	}
	isAs(t, l, model{4, 2, 7, want})
	if added != want[5] {
		t.Errorf("an answer was changed with an argument: %v", added)
	}
}

// TestPutOverOthersKeepsNoArgument: what is put in place of entries with another term.
func TestPutOverOthersKeepsNoArgument(t *testing.T) {
	l := open(t, 4, 2, 7, datas("old", 5, 2, 2, 2)...)
	g := give(6, 3, 3, 3)
	before := l.From(0, most)
	_, _, fresh := l.Put(5, 2, g.entries)
	g.isUnchanged(t, 6, 3, 3, 3)
	areApart(t, before, fresh, l.From(0, most), g.entries[:1])
	g.spoil()
	spoil(fresh)
	isAs(t, l, model{4, 2, 7, slices.Concat(datas("old", 5, 2), give(6, 3, 3, 3).entries)})
	if !slices.Equal(before, datas("old", 5, 2, 2, 2)) {
		t.Errorf("an earlier answer was changed: %v", before)
	}
}

func TestAnswersAreApart(t *testing.T) {
	m := model{4, 2, 7, give(5, 2, 3, 3, 4).entries}
	l := m.log(t)
	_, _, fresh := l.Put(8, 4, datas("new", 9, 4, 5))
	added := l.Add(data(0, 0, "added"))
	m.entries = slices.Concat(m.entries, datas("new", 9, 4, 5), []api.Entry{{Index: 11, Term: 5, Kind: added.Kind, Slot: added.Slot, Token: added.Token, Body: "added 0 0"}})
	isAs(t, l, m)
	a, b, c := l.From(0, most), l.From(0, most), l.From(9, 2)
	areApart(t, a, b, c, fresh, []api.Entry{added})
	kept := slices.Clone(b)
	for _, answer := range [][]api.Entry{a, c, fresh, {added}} {
		spoil(answer)
		isAs(t, l, m)
	}
	if !slices.Equal(b, kept) {
		t.Errorf("an answer was changed with another one: %v", b)
	}
}

// TestAnswersStay: what a log told does not change when the log does.
func TestAnswersStay(t *testing.T) {
	for _, change := range []func(l *logs.Log){
		func(l *logs.Log) { l.Add(noop(0, 0)) },
		func(l *logs.Log) { l.Put(4, 2, datas("new", 5, 9, 9, 9, 9, 9)) },
		func(l *logs.Log) { l.Put(6, 3, datas("new", 7, 9)) },
		func(l *logs.Log) { l.Cut(6); l.Add(noop(0, 0)) },
		func(l *logs.Log) { l.Cut(8); l.Add(noop(0, 0)); l.Add(noop(0, 0)) },
		func(l *logs.Log) { l.Reset(6, 3, 1); l.Add(noop(0, 0)) },
		func(l *logs.Log) { l.Reset(9, 9, 1); l.Add(noop(0, 0)) },
	} {
		l := open(t, 4, 2, 7, datas("old", 5, 2, 3)...)
		_, _, fresh := l.Put(6, 3, datas("old", 7, 3, 4))
		answers := [][]api.Entry{l.From(0, most), l.From(6, 2), fresh}
		change(l)
		for k, want := range [][]api.Entry{datas("old", 5, 2, 3, 3, 4), datas("old", 6, 3, 3), datas("old", 7, 3, 4)} {
			if !slices.Equal(answers[k], want) {
				t.Errorf("the answer %d was changed: %v", k, answers[k])
			}
		}
	}
}

// TestLogsAreApart: two logs of the same slices do not change with each other.
func TestLogsAreApart(t *testing.T) {
	entries := datas("old", 5, 2, 3, 3)
	a, b := open(t, 4, 2, 7, entries...), open(t, 4, 2, 7, entries...)
	a.Put(5, 2, datas("new", 6, 9))
	a.Add(noop(0, 0))
	a.Cut(6)
	b.Add(data(0, 3, "added"))
	isAs(t, a, model{6, 9, 7, noops(7, 9)})
	want := data(0, 3, "added")
	want.Index = 8
	isAs(t, b, model{4, 2, 7, append(slices.Clone(entries), want)})
	if !slices.Equal(entries, datas("old", 5, 2, 3, 3)) {
		t.Errorf("an argument was changed: %v", entries)
	}
}

// heap is how much memory is in use.
func heap() int {
	runtime.GC()
	var m runtime.MemStats
	runtime.ReadMemStats(&m)
	return int(m.HeapAlloc)
}

// TestWhatIsRemovedIsNotKept: the memory of entries that a log has lost is not in use any more.
func TestWhatIsRemovedIsNotKept(t *testing.T) {
	const n, size = 64, 1 << 20
	for k, remove := range []func(l *logs.Log){
		func(l *logs.Log) { l.Cut(n - 1) },
		func(l *logs.Log) { l.Reset(n-1, 1, 7) },
		func(l *logs.Log) { l.Reset(n+1, 1, 7) },
		func(l *logs.Log) { l.Put(1, 1, noops(2, 2)) },
	} {
		l := open(t, 0, 0, 7)
		for range n {
			l.Add(api.Entry{Term: 1, Kind: api.EData, Body: strings.Repeat("x", size)})
		}
		full := heap()
		remove(l)
		if left := heap(); full-left < n/2*size {
			t.Errorf("%d: %d of %d bytes are left", k, left, full)
		}
		runtime.KeepAlive(l)
	}
}

// TestTheRoomOfWhatIsCutOffGoes: the next entry leaves it behind.
func TestTheRoomOfWhatIsCutOffGoes(t *testing.T) {
	const n, size = 1 << 20, int(unsafe.Sizeof(api.Entry{}))
	l := open(t, 0, 0, 7)
	for range n {
		l.Add(noop(0, 1))
	}
	full := heap()
	l.Cut(n - 1)
	l.Add(noop(0, 1))
	if left := heap(); full-left < n/2*size {
		t.Errorf("%d of %d bytes are left", left, full)
	}
	isAs(t, l, model{n - 1, 1, 7, noops(n, 1, 1)})
}
