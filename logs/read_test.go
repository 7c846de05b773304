package logs_test

import (
	"math"
	"slices"
	"testing"

	"wapentake/api"
	"wapentake/logs"
)

// TestExamples are the chapter's, one after the other.
func TestExamples(t *testing.T) {
	l := open(t, 0, 0, 7)
	if e := l.Add(noop(9, 1)); e != noop(1, 1) {
		t.Errorf("Add: %v", e)
	}
	if index, term := l.Last(); index != 1 || term != 1 {
		t.Errorf("Last: %d %d", index, term)
	}
	if members, index := l.Members(); members != 7 || index != 0 {
		t.Errorf("Members: %d %d", members, index)
	}
	if term, ok := l.Term(0); term != 0 || !ok {
		t.Errorf("Term(0): %d, %v", term, ok)
	}
	if term, ok := l.Term(2); term != 0 || ok {
		t.Errorf("Term(2): %d, %v", term, ok)
	}
	isPut := func(index, term uint64, entries []api.Entry, wantOK bool, wantMatch uint64, wantFresh []api.Entry) {
		t.Helper()
		if ok, match, fresh := l.Put(index, term, entries); ok != wantOK || match != wantMatch || !slices.Equal(fresh, wantFresh) {
			t.Errorf("Put(%d, %d, %v): %v, %d, %v", index, term, entries, ok, match, fresh)
		}
	}
	isPut(1, 1, []api.Entry{noop(2, 1), noop(3, 2)}, true, 3, []api.Entry{noop(2, 1), noop(3, 2)})
	isPut(2, 1, noops(3, 3), true, 3, noops(3, 3))
	if got := l.From(2, 9); !slices.Equal(got, []api.Entry{noop(2, 1), noop(3, 3)}) {
		t.Errorf("From(2, 9): %v", got)
	}
	isPut(5, 3, nil, false, 0, nil)
	isPut(2, 2, nil, false, 0, nil)
	isPut(0, 0, noops(1, 1), true, 1, nil)
	if e := l.Cut(2); e != api.OK {
		t.Errorf("Cut(2): %d", e)
	}
	if index, term := l.First(); index != 2 || term != 1 {
		t.Errorf("First: %d %d", index, term)
	}
	if got := l.From(0, 9); !slices.Equal(got, noops(3, 3)) {
		t.Errorf("From(0, 9): %v", got)
	}
	if term, ok := l.Term(1); term != 0 || ok {
		t.Errorf("Term(1): %d, %v", term, ok)
	}
	isPut(0, 0, noops(1, 1, 1, 3), true, 3, nil)
	isPut(0, 0, noops(1, 1), false, 0, nil)
	if l.AsNew(9, 2) || !l.AsNew(3, 3) || l.AsNew(2, 3) {
		t.Error("AsNew")
	}
}

func TestNew(t *testing.T) {
	for _, x := range []struct {
		index, term uint64
		slices      [][]api.Entry
		want        []api.Entry
	}{
		{0, 0, nil, nil},
		{5, 3, nil, nil},
		{5, 3, [][]api.Entry{}, nil},
		{5, 3, [][]api.Entry{nil, {}, nil}, nil},
		{0, 0, [][]api.Entry{noops(1, 0)}, noops(1, 0)},
		{0, 0, [][]api.Entry{noops(1, 4)}, noops(1, 4)},
		{5, 3, [][]api.Entry{noops(6, 3, 3, 4, 9)}, noops(6, 3, 3, 4, 9)},
		{5, 3, [][]api.Entry{noops(6, 3), noops(7, 3, 4), noops(9, 9)}, noops(6, 3, 3, 4, 9)},
		{5, 3, [][]api.Entry{nil, noops(6, 3), nil, noops(7, 3, 4), {}, noops(9, 9), nil}, noops(6, 3, 3, 4, 9)},
		{1<<62 - 2, 1 << 40, [][]api.Entry{noops(1<<62-1, 1<<40), noops(1<<62, 1<<41)}, []api.Entry{noop(1<<62-1, 1<<40), noop(1<<62, 1<<41)}},
		{5, math.MaxUint64, [][]api.Entry{noops(6, math.MaxUint64)}, noops(6, math.MaxUint64)},
		{math.MaxUint64, 3, nil, nil},
	} {
		l, e := logs.New(x.index, x.term, 9, x.slices...)
		if l == nil || e != api.OK {
			t.Fatalf("New(%d, %d, 9, %v): %v, %d", x.index, x.term, x.slices, l, e)
		}
		isAs(t, l, model{x.index, x.term, 9, x.want})
	}
}

func TestNewOfWhatDoesNotFit(t *testing.T) {
	for _, x := range []struct {
		index, term uint64
		slices      [][]api.Entry
	}{
		{0, 0, [][]api.Entry{noops(0, 0)}},
		{0, 0, [][]api.Entry{noops(2, 0)}},
		{5, 3, [][]api.Entry{noops(5, 3)}},
		{5, 3, [][]api.Entry{noops(7, 3)}},
		{5, 3, [][]api.Entry{noops(4, 3)}},
		{5, 3, [][]api.Entry{noops(0, 3)}},
		{5, 3, [][]api.Entry{noops(6, 2)}},
		{5, 3, [][]api.Entry{noops(6, 0)}},
		{5, 3, [][]api.Entry{{noop(6, 3), noop(6, 3)}}},
		{5, 3, [][]api.Entry{{noop(6, 3), noop(8, 3)}}},
		{5, 3, [][]api.Entry{{noop(7, 3), noop(6, 3)}}},
		{5, 3, [][]api.Entry{noops(6, 4, 3)}},
		{5, 3, [][]api.Entry{noops(6, 4, 5, 4)}},
		{5, 3, [][]api.Entry{noops(6, 3), noops(6, 3)}},
		{5, 3, [][]api.Entry{noops(6, 3), noops(8, 3)}},
		{5, 3, [][]api.Entry{noops(6, 4), noops(7, 3)}},
		{5, 3, [][]api.Entry{noops(6, 4, 4), nil, noops(8, 3)}},
		{5, 3, [][]api.Entry{noops(7, 3), noops(6, 3)}},
		{5, 3, [][]api.Entry{noops(6, 3), noops(7, 3), noops(9, 3)}},
		{5, 3, [][]api.Entry{noops(6, 3), noops(7, 3), noops(8, 2), noops(9, 3)}},
		{5, 3, [][]api.Entry{noops(8, 3), nil}},
		{math.MaxUint64, 3, [][]api.Entry{noops(0, 3)}},
		{math.MaxUint64 - 1, 3, [][]api.Entry{{noop(math.MaxUint64, 3), noop(0, 3)}}},
		{5, math.MaxUint64, [][]api.Entry{noops(6, 0)}},
	} {
		if l, e := logs.New(x.index, x.term, 9, x.slices...); l != nil || e != api.ErrArg {
			t.Errorf("New(%d, %d, 9, %v): %v, %d", x.index, x.term, x.slices, l, e)
		}
	}
}

// TestNewOfEveryTwo: entries of any terms, cut into two slices anywhere, are taken exactly if they fit.
func TestNewOfEveryTwo(t *testing.T) {
	for term := range uint64(3) {
		for n := range 5 {
			everyTerms(n, 0, 2, true, func(terms []uint64) {
				entries := datas("new", 5, terms...)
				for at := range n + 1 {
					l, e := logs.New(4, term, 7, entries[:at], entries[at:])
					if fits(4, term, entries) != (e == api.OK) || (l == nil) != (e == api.ErrArg) {
						t.Fatalf("New(4, %d, 7, %v): %v, %d", term, entries, l, e)
					}
					if l != nil {
						isAs(t, l, model{4, term, 7, entries})
					}
				}
			})
		}
	}
}

func TestALogWithoutEntries(t *testing.T) {
	for _, m := range []model{{0, 0, 0, nil}, {0, 4, 7, nil}, {5, 3, 255, nil}, {1 << 62, 1 << 40, 31, nil}} {
		tellsAs(t, m.log(t), m)
	}
	l := open(t, 5, 3, 9)
	firstIndex, firstTerm := l.First()
	lastIndex, lastTerm := l.Last()
	if firstIndex != 5 || firstTerm != 3 || lastIndex != 5 || lastTerm != 3 {
		t.Errorf("First %d %d, Last %d %d", firstIndex, firstTerm, lastIndex, lastTerm)
	}
	if !l.AsNew(5, 3) || l.AsNew(4, 3) || l.AsNew(9, 2) || !l.AsNew(0, 4) {
		t.Error("AsNew")
	}
}

func TestTerm(t *testing.T) {
	l := open(t, 5, 3, 7, noops(6, 3, 4, 9)...)
	for _, x := range []struct {
		index, want uint64
		ok          bool
	}{{0, 0, false}, {4, 0, false}, {5, 3, true}, {6, 3, true}, {7, 4, true}, {8, 9, true}, {9, 0, false}, {10, 0, false}, {1 << 63, 0, false}, {math.MaxUint64, 0, false}} {
		if got, ok := l.Term(x.index); got != x.want || ok != x.ok {
			t.Errorf("Term(%d): %d, %v", x.index, got, ok)
		}
	}
	if got, ok := open(t, 0, 0, 7, noops(1, 0)...).Term(1); got != 0 || !ok {
		t.Errorf("Term of an entry of the term 0: %d, %v", got, ok)
	}
}

func TestFrom(t *testing.T) {
	l := open(t, 5, 3, 7, noops(6, 3, 4, 9)...)
	for _, x := range []struct {
		index uint64
		most  int
		want  []api.Entry
	}{
		{0, 9, noops(6, 3, 4, 9)}, {4, 9, noops(6, 3, 4, 9)}, {5, 9, noops(6, 3, 4, 9)}, {6, 9, noops(6, 3, 4, 9)},
		{7, 9, noops(7, 4, 9)}, {8, 9, noops(8, 9)}, {9, 9, nil}, {10, 9, nil}, {1 << 63, 9, nil}, {math.MaxUint64, 9, nil},
		{0, 1, noops(6, 3)}, {5, 1, noops(6, 3)}, {6, 1, noops(6, 3)}, {6, 2, noops(6, 3, 4)}, {6, 3, noops(6, 3, 4, 9)}, {6, 4, noops(6, 3, 4, 9)},
		{7, 1, noops(7, 4)}, {8, 1, noops(8, 9)}, {9, 1, nil},
		{0, 0, nil}, {6, 0, nil}, {6, -1, nil}, {6, math.MinInt, nil}, {7, math.MaxInt, noops(7, 4, 9)},
	} {
		if got := l.From(x.index, x.most); !slices.Equal(got, x.want) {
			t.Errorf("From(%d, %d): %v", x.index, x.most, got)
		}
	}
}

// TestFromTellsAll: each field of an entry is told as it was given.
func TestFromTellsAll(t *testing.T) {
	given := []api.Entry{
		{Index: 6, Term: 3, Kind: 255, Slot: 255, Token: api.Token{1, 2, 3, 4, 5, 6, 7, 8}, Body: "\x00\xff body"},
		{Index: 7, Term: 3},
		{Index: 8, Term: 4, Kind: api.EOper, Body: "\x80"},
	}
	l := open(t, 5, 3, 7, given...)
	if got := l.From(0, 9); !slices.Equal(got, given) {
		t.Errorf("From: %v", got)
	}
}

func TestMembers(t *testing.T) {
	for k, x := range []struct {
		entries []api.Entry
		members uint8
		index   uint64
	}{
		{nil, 7, 5},
		{[]api.Entry{conf(6, 3, 3)}, 3, 6},
		{[]api.Entry{conf(6, 3, 3), noop(7, 3)}, 3, 6},
		{[]api.Entry{noop(6, 3), conf(7, 3, 3)}, 3, 7},
		{[]api.Entry{conf(6, 3, 3), conf(7, 3, 15)}, 15, 7},
		{[]api.Entry{conf(6, 3, 3), noop(7, 3), conf(8, 3, 15), noop(9, 3)}, 15, 8},
		{[]api.Entry{conf(6, 3, 0)}, 0, 6},
		{[]api.Entry{conf(6, 3, 255)}, 255, 6},
		{[]api.Entry{{Index: 6, Term: 3, Kind: api.EConf}}, 7, 5},
		{[]api.Entry{{Index: 6, Term: 3, Kind: api.EConf, Body: "\x03\x03"}}, 7, 5},
		{[]api.Entry{conf(6, 3, 3), {Index: 7, Term: 3, Kind: api.EConf, Body: "\x0f\x0f"}}, 3, 6},
		{[]api.Entry{conf(6, 3, 3), {Index: 7, Term: 3, Kind: api.EConf}}, 3, 6},
		{[]api.Entry{{Index: 6, Term: 3, Kind: api.ENoop, Body: "\x03"}}, 7, 5},
		{[]api.Entry{{Index: 6, Term: 3, Kind: api.EData, Body: "\x03"}}, 7, 5},
		{[]api.Entry{{Index: 6, Term: 3, Kind: api.EOper, Body: "\x03"}}, 7, 5},
		{[]api.Entry{{Index: 6, Term: 3, Kind: api.ETick, Body: "\x03"}}, 7, 5},
		{[]api.Entry{{Index: 6, Term: 3, Kind: 0, Body: "\x03"}}, 7, 5},
		{[]api.Entry{{Index: 6, Term: 3, Kind: 255, Body: "\x03"}}, 7, 5},
		{[]api.Entry{{Index: 6, Term: 3, Kind: api.EConf, Slot: 2, Token: api.Token{9}, Body: "\x03"}}, 3, 6},
	} {
		l := open(t, 5, 3, 7, x.entries...)
		if members, index := l.Members(); members != x.members || index != x.index {
			t.Errorf("%d: %d from %d", k, members, index)
		}
		tellsAs(t, l, model{5, 3, 7, x.entries})
	}
}

// TestMembersOfEveryKind: of all kinds and lengths of a Body, one makes a membership entry.
func TestMembersOfEveryKind(t *testing.T) {
	for kind := range 256 {
		for _, body := range []string{"", "\x03", "\x03\x03", "\x03\x03\x03"} {
			l := open(t, 5, 3, 7, api.Entry{Index: 6, Term: 3, Kind: uint8(kind), Body: body})
			members, index := l.Members()
			if isConf := kind == 2 && body == "\x03"; isConf != (members == 3 && index == 6) || !isConf && (members != 7 || index != 5) {
				t.Errorf("kind %d, Body %q: %d from %d", kind, body, members, index)
			}
		}
	}
}

func TestMembersAt(t *testing.T) {
	l := open(t, 5, 3, 7, noop(6, 3), conf(7, 3, 3), noop(8, 3), conf(9, 4, 15), noop(10, 4))
	for _, x := range []struct {
		index uint64
		want  uint8
	}{{0, 7}, {4, 7}, {5, 7}, {6, 7}, {7, 3}, {8, 3}, {9, 15}, {10, 15}, {11, 15}, {1 << 63, 15}, {math.MaxUint64, 15}} {
		if got := l.MembersAt(x.index); got != x.want {
			t.Errorf("MembersAt(%d): %d", x.index, got)
		}
	}
}

func TestAsNew(t *testing.T) {
	l := open(t, 5, 3, 7, noops(6, 3, 4)...)
	for _, x := range []struct {
		index, term uint64
		want        bool
	}{
		{7, 4, true}, {8, 4, true}, {math.MaxUint64, 4, true}, {6, 4, false}, {0, 4, false},
		{7, 5, true}, {6, 5, true}, {0, 5, true}, {0, math.MaxUint64, true},
		{7, 3, false}, {8, 3, false}, {math.MaxUint64, 3, false}, {math.MaxUint64, 0, false}, {0, 0, false},
	} {
		if got := l.AsNew(x.index, x.term); got != x.want {
			t.Errorf("AsNew(%d, %d): %v", x.index, x.term, got)
		}
	}
}
