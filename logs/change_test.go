package logs_test

import (
	"math"
	"slices"
	"testing"

	"wapentake/api"
)

func TestAdd(t *testing.T) {
	for _, x := range []struct {
		m    model
		e    api.Entry
		want api.Entry
	}{
		{model{0, 0, 7, nil}, noop(9, 1), noop(1, 1)},
		{model{0, 0, 7, nil}, noop(0, 0), noop(1, 0)},
		{model{4, 6, 7, nil}, noop(0, 2), noop(5, 6)},
		{model{4, 6, 7, nil}, noop(5, 6), noop(5, 6)},
		{model{4, 6, 7, nil}, noop(5, 7), noop(5, 7)},
		{model{4, 6, 7, nil}, noop(5, 5), noop(5, 6)},
		{model{4, 3, 7, noops(5, 3, 8)}, noop(1, 7), noop(7, 8)},
		{model{4, 3, 7, noops(5, 3, 8)}, noop(1, 0), noop(7, 8)},
		{model{4, 3, 7, noops(5, 3, 8)}, noop(math.MaxUint64, 8), noop(7, 8)},
		{model{4, 3, 7, noops(5, 3, 8)}, noop(7, math.MaxUint64), noop(7, math.MaxUint64)},
		{model{4, 3, 7, noops(5, 3)}, conf(1, 3, 5), conf(6, 3, 5)},
		{model{1<<62 - 1, 3, 7, nil}, noop(1, 3), noop(1<<62, 3)},
		{
			model{4, 6, 7, nil},
			api.Entry{Index: 1, Term: 2, Kind: 255, Slot: 254, Token: api.Token{1, 7: 8}, Body: "\x00 any\xff"},
			api.Entry{Index: 5, Term: 6, Kind: 255, Slot: 254, Token: api.Token{1, 7: 8}, Body: "\x00 any\xff"},
		},
	} {
		l := x.m.log(t)
		if got := l.Add(x.e); got != x.want {
			t.Errorf("Add(%v): %v, not %v", x.e, got, x.want)
		}
		x.m.entries = append(slices.Clone(x.m.entries), x.want)
		tellsAs(t, l, x.m)
	}
}

func TestAddAgainAndAgain(t *testing.T) {
	m := model{2, 1, 7, nil}
	l := m.log(t)
	for i, term := range []uint64{1, 0, 5, 5, 3, 9, 0, 9, 12} {
		want := api.Entry{}
		m, want = m.add(data(uint64(i%3), term, "new"))
		if got := l.Add(data(uint64(i%3), term, "new")); got != want {
			t.Errorf("Add: %v, not %v", got, want)
		}
		isAs(t, l, m)
	}
}

func TestPut(t *testing.T) {
	old := model{4, 2, 7, datas("old", 5, 2, 3, 3)} // up to 7 3
	for k, x := range []struct {
		index, term uint64
		entries     []api.Entry
		match       uint64
		kept        int // how many of the entries are still there
		fresh       int // how many are appended: the last ones that were put
	}{
		// No entries.
		{4, 2, nil, 4, 3, 0}, {5, 2, nil, 5, 3, 0}, {6, 3, nil, 6, 3, 0}, {7, 3, nil, 7, 3, 0}, {7, 3, []api.Entry{}, 7, 3, 0},
		// Entries behind the last one.
		{7, 3, datas("new", 8, 3), 8, 3, 1}, {7, 3, datas("new", 8, 4, 9, 9), 10, 3, 3},
		// Entries that are there, some or all.
		{4, 2, datas("new", 5, 2), 5, 3, 0}, {4, 2, datas("new", 5, 2, 3), 6, 3, 0}, {4, 2, datas("new", 5, 2, 3, 3), 7, 3, 0},
		{5, 2, datas("new", 6, 3), 6, 3, 0}, {5, 2, datas("new", 6, 3, 3), 7, 3, 0}, {6, 3, datas("new", 7, 3), 7, 3, 0},
		// And entries behind them.
		{4, 2, datas("new", 5, 2, 3, 3, 3), 8, 3, 1}, {6, 3, datas("new", 7, 3, 4, 5), 9, 3, 2},
		// Another term at the first, a middle and the last position, with less, as much and more behind it.
		{4, 2, datas("new", 5, 3), 5, 0, 1}, {4, 2, datas("new", 5, 4, 4), 6, 0, 2}, {4, 2, datas("new", 5, 3, 3), 6, 0, 2}, {4, 2, datas("new", 5, 3, 3, 3), 7, 0, 3}, {4, 2, datas("new", 5, 3, 3, 3, 3), 8, 0, 4},
		{4, 2, datas("new", 5, 2, 2), 6, 1, 1}, {5, 2, datas("new", 6, 2), 6, 1, 1}, {5, 2, datas("new", 6, 2, 3), 7, 1, 2}, {5, 2, datas("new", 6, 4, 4, 4), 8, 1, 3},
		{4, 2, datas("new", 5, 2, 3, 4), 7, 2, 1}, {6, 3, datas("new", 7, 4), 7, 2, 1}, {6, 3, datas("new", 7, 9, 9), 8, 2, 2},
		// From below the beginning.
		{3, 2, datas("new", 4, 2), 4, 3, 0}, {3, 0, datas("new", 4, 2, 2), 5, 3, 0}, {0, 0, datas("new", 1, 0, 1, 1, 2), 4, 3, 0},
		{0, 0, datas("new", 1, 0, 1, 1, 2, 2, 3, 3, 4), 8, 3, 1}, {2, 1, datas("new", 3, 1, 2, 3), 5, 0, 1}, {2, 1, datas("new", 3, 2, 2, 2, 2), 6, 1, 1}, {3, 2, datas("new", 4, 2, 2, 3, 4, 4), 8, 2, 2},
	} {
		l := old.log(t)
		ok, match, fresh := l.Put(x.index, x.term, x.entries)
		want := x.entries[len(x.entries)-x.fresh:]
		if !ok || match != x.match || !slices.Equal(fresh, want) {
			t.Errorf("%d: %v, %d, %v", k, ok, match, fresh)
		}
		tellsAs(t, l, model{4, 2, 7, slices.Concat(old.entries[:x.kept], want)})
	}
}

func TestPutThatIsFalse(t *testing.T) {
	old := model{4, 2, 7, datas("old", 5, 2, 3, 3)}
	for k, x := range []struct {
		index, term uint64
		entries     []api.Entry
	}{
		// Entries that do not fit, by an index or by a term, at the first one or behind it.
		{5, 2, datas("new", 5, 2)}, {5, 2, datas("new", 7, 3)}, {5, 2, datas("new", 6, 1)}, {5, 2, datas("new", 0, 2)},
		{5, 2, []api.Entry{noop(6, 3), noop(8, 3)}}, {5, 2, []api.Entry{noop(6, 3), noop(6, 3)}}, {5, 2, datas("new", 6, 4, 3)}, {5, 2, datas("new", 6, 3, 4, 3)},
		{7, 3, datas("new", 8, 2)}, {7, 3, datas("new", 9, 3)}, {4, 2, datas("new", 5, 1)}, {4, 2, datas("new", 5, 2, 1)},
		{3, 2, []api.Entry{noop(4, 2), noop(6, 3)}}, {3, 2, datas("new", 4, 2, 1)}, {3, 3, datas("new", 4, 2)}, {2, 0, datas("new", 4, 2)},
		// An index at which the log has not that term.
		{4, 1, nil}, {4, 3, nil}, {4, 0, nil}, {5, 1, nil}, {5, 3, nil}, {5, 0, nil}, {6, 2, nil}, {6, 4, nil}, {7, 2, nil}, {7, 4, nil},
		{8, 3, nil}, {8, 0, nil}, {9, 3, nil}, {1 << 62, 3, nil}, {math.MaxUint64, 3, nil}, {math.MaxUint64, 0, nil},
		{4, 1, datas("new", 5, 2)}, {5, 3, datas("new", 6, 3)}, {6, 2, datas("new", 7, 3)}, {7, 4, datas("new", 8, 4)}, {8, 3, datas("new", 9, 3)}, {8, 0, datas("new", 9, 3)},
		{math.MaxUint64, 3, datas("new", 0, 3)},
		// An index below the beginning, and no entry, or one with another term, at the beginning's index.
		{3, 2, nil}, {0, 0, nil}, {2, 1, datas("new", 3, 2)}, {0, 0, datas("new", 1, 0, 1, 2)}, {3, 2, datas("new", 4, 3)}, {3, 1, datas("new", 4, 1)}, {3, 2, datas("new", 4, 3, 3, 3, 3, 3)}, {0, 0, datas("new", 1, 0, 1, 1, 1, 2, 3, 3)},
	} {
		l := old.log(t)
		if ok, match, fresh := l.Put(x.index, x.term, x.entries); ok || match != 0 || len(fresh) != 0 {
			t.Errorf("%d: %v, %d, %v", k, ok, match, fresh)
		}
		tellsAs(t, l, old)
	}
}

// TestPutOfMemberships: the newest members go and come with the entries.
func TestPutOfMemberships(t *testing.T) {
	m := model{0, 0, 7, []api.Entry{noop(1, 1), conf(2, 1, 3), noop(3, 1), conf(4, 1, 1)}}
	l := m.log(t)
	for _, x := range []struct {
		index, term uint64
		entries     []api.Entry
		members     uint8
		at          uint64
	}{
		{3, 1, []api.Entry{conf(4, 1, 99)}, 1, 4},
		{3, 1, noops(4, 2), 3, 2},
		{1, 1, []api.Entry{conf(2, 2, 15)}, 15, 2},
		{0, 0, noops(1, 2), 7, 0},
		{1, 2, []api.Entry{conf(2, 2, 31), conf(3, 3, 30)}, 30, 3},
	} {
		put(t, l, &m, x.index, x.term, x.entries)
		if members, at := l.Members(); members != x.members || at != x.at {
			t.Errorf("Members: %d from %d, not %d from %d", members, at, x.members, x.at)
		}
		tellsAs(t, l, m)
	}
}

// TestEveryPut: into every log of a few entries, all entries of a few terms behind all positions near it.
func TestEveryPut(t *testing.T) {
	done := [2]int{}
	everyLog(func(old model) {
		for index := range uint64(7) {
			for term := range uint64(4) {
				for n := range 4 {
					everyTerms(n, 0, 3, n < 3, func(terms []uint64) {
						m := old
						l := m.log(t)
						if put(t, l, &m, index, term, datas("new", index+1, terms...)) {
							done[1]++
						} else {
							done[0]++
						}
						isAs(t, l, m)
					})
				}
			}
		}
	})
	if done[0] < 1000 || done[1] < 1000 {
		t.Errorf("%d were false, %d true", done[0], done[1])
	}
}

func TestCut(t *testing.T) {
	old := model{4, 2, 7, []api.Entry{data(5, 2, "old"), conf(6, 3, 3), data(7, 3, "old"), conf(8, 4, 15), data(9, 4, "old")}}
	for _, x := range []struct {
		index uint64
		e     api.Errno
		want  model
	}{
		{0, api.ErrOld, old}, {3, api.ErrOld, old},
		{4, api.OK, old},
		{5, api.OK, model{5, 2, 7, old.entries[1:]}},
		{6, api.OK, model{6, 3, 3, old.entries[2:]}},
		{7, api.OK, model{7, 3, 3, old.entries[3:]}},
		{8, api.OK, model{8, 4, 15, old.entries[4:]}},
		{9, api.OK, model{9, 4, 15, nil}},
		{10, api.ErrNone, old}, {11, api.ErrNone, old}, {1 << 62, api.ErrNone, old}, {math.MaxUint64, api.ErrNone, old},
	} {
		l := old.log(t)
		for range 2 {
			if e := l.Cut(x.index); e != x.e {
				t.Errorf("Cut(%d): %d", x.index, e)
			}
			tellsAs(t, l, x.want)
		}
	}
}

// TestCutTwice: every cut behind every cut, and what is put and added behind them.
func TestCutTwice(t *testing.T) {
	everyLog(func(old model) {
		for first := range uint64(8) {
			for second := range uint64(8) {
				m := old
				l := m.log(t)
				cut(t, l, &m, first)
				isAs(t, l, m)
				cut(t, l, &m, second)
				tellsAs(t, l, m)
				index, term := m.last()
				put(t, l, &m, index, term, datas("new", index+1, term, term+1))
				m, _ = m.add(data(0, 0, "added"))
				l.Add(data(0, 0, "added"))
				tellsAs(t, l, m)
			}
		}
	})
}

func TestReset(t *testing.T) {
	old := model{4, 2, 7, []api.Entry{data(5, 2, "old"), conf(6, 3, 3), data(7, 3, "old"), conf(8, 4, 15), data(9, 4, "old")}}
	for _, x := range []struct {
		index, term uint64
		kept        []api.Entry
	}{
		{4, 2, old.entries}, {5, 2, old.entries[1:]}, {6, 3, old.entries[2:]}, {7, 3, old.entries[3:]}, {8, 4, old.entries[4:]}, {9, 4, nil},
		{4, 1, nil}, {4, 3, nil}, {5, 3, nil}, {6, 2, nil}, {7, 4, nil}, {8, 3, nil}, {9, 5, nil},
		{0, 0, nil}, {3, 2, nil}, {10, 4, nil}, {10, 0, nil}, {20, 9, nil}, {1 << 62, 1 << 40, nil}, {math.MaxUint64, 4, nil},
	} {
		l := old.log(t)
		l.Reset(x.index, x.term, 9)
		m := model{x.index, x.term, 9, x.kept}
		isAs(t, l, m)
		if x.index <= 1<<62 {
			tellsAs(t, l, m)
		}
		l.Reset(x.index, x.term, 31)
		m.members = 31
		isAs(t, l, m)
	}
}

func TestEveryReset(t *testing.T) {
	everyLog(func(old model) {
		for index := range uint64(7) {
			for term := range uint64(4) {
				m := old.reset(index, term, 24)
				l := old.log(t)
				l.Reset(index, term, 24)
				tellsAs(t, l, m)
				next, _ := m.add(data(0, 1, "new"))
				l.Add(data(0, 1, "new"))
				isAs(t, l, next)
			}
		}
	})
}
