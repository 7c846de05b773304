package logs_test

import (
	"math"
	"math/rand"
	"slices"
	"strconv"
	"strings"
	"testing"
	"unsafe"

	"wapentake/api"
	"wapentake/logs"
)

// most is how many entries are asked for where all are.
const most = math.MaxInt

func noop(index, term uint64) api.Entry {
	return api.Entry{Index: index, Term: term, Kind: api.ENoop}
}

// noops are entries of these terms, from an index on.
func noops(index uint64, terms ...uint64) []api.Entry {
	var entries []api.Entry
	for _, term := range terms {
		entries = append(entries, noop(index, term))
		index++
	}
	return entries
}

// data is an entry that tells who wrote it.
func data(index, term uint64, who string) api.Entry {
	body := who + " " + strconv.FormatUint(index, 10) + " " + strconv.FormatUint(term, 10)
	return api.Entry{Index: index, Term: term, Kind: api.EData, Slot: 3, Token: api.Token{1, 2, 7: 8}, Body: body}
}

// datas are entries of these terms, from an index on.
func datas(who string, index uint64, terms ...uint64) []api.Entry {
	var entries []api.Entry
	for _, term := range terms {
		entries = append(entries, data(index, term, who))
		index++
	}
	return entries
}

// conf is a membership entry.
func conf(index, term uint64, members uint8) api.Entry {
	return api.Entry{Index: index, Term: term, Kind: api.EConf, Body: string([]byte{members})}
}

// open makes a log, which must succeed.
func open(t *testing.T, index, term uint64, members uint8, entries ...api.Entry) *logs.Log {
	t.Helper()
	l, e := logs.New(index, term, members, entries)
	if l == nil || e != api.OK {
		t.Fatalf("New(%d, %d, %d, %v): %v, %d", index, term, members, entries, l, e)
	}
	return l
}

// model is a log by the chapter's words. Its list of entries is never changed, but replaced.
type model struct {
	index, term uint64
	members     uint8
	entries     []api.Entry
}

// log makes a log that is as m.
func (m model) log(t *testing.T) *logs.Log {
	t.Helper()
	return open(t, m.index, m.term, m.members, m.entries...)
}

// line are all positions of m; what is not a position's is zero in the first one, the beginning.
func (m model) line() []api.Entry {
	return append([]api.Entry{{Index: m.index, Term: m.term}}, m.entries...)
}

func (m model) last() (index, term uint64) {
	line := m.line()
	return line[len(line)-1].Index, line[len(line)-1].Term
}

func (m model) termAt(index uint64) (uint64, bool) {
	for _, p := range m.line() {
		if p.Index == index {
			return p.Term, true
		}
	}
	return 0, false
}

func (m model) has(index, term uint64) bool {
	own, ok := m.termAt(index)
	return ok && own == term
}

func (m model) from(index uint64, most int) []api.Entry {
	var found []api.Entry
	for _, e := range m.entries {
		if e.Index >= index && len(found) < most {
			found = append(found, e)
		}
	}
	return found
}

// membersAt returns the members at an index, and what index they are from.
func (m model) membersAt(index uint64) (members uint8, at uint64) {
	members, at = m.members, m.index
	for _, e := range m.entries {
		if e.Index <= index && e.Kind == 2 && len(e.Body) == 1 {
			members, at = e.Body[0], e.Index
		}
	}
	return members, at
}

func (m model) asNew(index, term uint64) bool {
	lastIndex, lastTerm := m.last()
	return term > lastTerm || term == lastTerm && !(index < lastIndex)
}

func (m model) add(e api.Entry) (model, api.Entry) {
	index, term := m.last()
	e.Index = index + 1
	if term > e.Term {
		e.Term = term
	}
	m.entries = append(slices.Clone(m.entries), e)
	return m, e
}

// fits reports whether entries fit, by the differences of neighbours.
func fits(index, term uint64, entries []api.Entry) bool {
	line := append([]api.Entry{{Index: index, Term: term}}, entries...)
	for i := 1; i < len(line); i++ {
		if line[i].Index-line[i-1].Index != 1 || line[i].Index == 0 || line[i].Term < line[i-1].Term {
			return false
		}
	}
	return true
}

// joins reports that nothing is in the way of a Put.
func (m model) joins(index, term uint64, entries []api.Entry) bool {
	if index >= m.index {
		return m.has(index, term)
	}
	return slices.ContainsFunc(entries, func(e api.Entry) bool { return e.Index == m.index && e.Term == m.term })
}

func (m model) put(index, term uint64, entries []api.Entry) (next model, ok bool, match uint64, fresh []api.Entry) {
	if !fits(index, term, entries) || !m.joins(index, term, entries) {
		return m, false, 0, nil
	}
	match = index
	for _, e := range entries {
		match = max(match, e.Index)
	}
	match = max(match, m.index)
	for _, e := range entries {
		if e.Index <= m.index {
			continue
		}
		if own, ok := m.termAt(e.Index); ok && own != e.Term {
			m.entries = slices.DeleteFunc(slices.Clone(m.entries), func(old api.Entry) bool { return old.Index >= e.Index })
		}
		if _, ok := m.termAt(e.Index); !ok {
			m.entries = append(slices.Clone(m.entries), e)
			fresh = append(fresh, e)
		}
	}
	return m, true, match, fresh
}

func (m model) cut(index uint64) (model, api.Errno) {
	if index < m.index {
		return m, api.ErrOld
	}
	if last, _ := m.last(); index > last {
		return m, api.ErrNone
	}
	term, _ := m.termAt(index)
	members, _ := m.membersAt(index)
	return model{index: index, term: term, members: members, entries: m.from(index+1, most)}, api.OK
}

func (m model) reset(index, term uint64, members uint8) model {
	var kept []api.Entry
	if m.has(index, term) {
		kept = m.from(index+1, most)
	}
	return model{index: index, term: term, members: members, entries: kept}
}

// isAs demands that a log tells what m has.
func isAs(t *testing.T, l *logs.Log, m model) {
	t.Helper()
	if index, term := l.First(); index != m.index || term != m.term {
		t.Fatalf("First: %d %d, not %d %d", index, term, m.index, m.term)
	}
	lastIndex, lastTerm := m.last()
	if index, term := l.Last(); index != lastIndex || term != lastTerm {
		t.Fatalf("Last: %d %d, not %d %d", index, term, lastIndex, lastTerm)
	}
	if got := l.From(0, most); !slices.Equal(got, m.entries) {
		t.Fatalf("entries %.500v\nnot %.500v", got, m.entries)
	}
	members, at := m.membersAt(lastIndex)
	if got, from := l.Members(); got != members || from != at {
		t.Fatalf("Members: %d from %d, not %d from %d", got, from, members, at)
	}
}

// tellsAs demands that a log tells what m has of each index near it, and of the edges of numbers.
func tellsAs(t *testing.T, l *logs.Log, m model) {
	t.Helper()
	isAs(t, l, m)
	lastIndex, lastTerm := m.last()
	indexes := []uint64{0, 1, 1 << 62, 1 << 63, math.MaxUint64 - 1, math.MaxUint64}
	for i := max(m.index, 2) - 2; i <= lastIndex+3; i++ {
		indexes = append(indexes, i)
	}
	for _, i := range indexes {
		want, wantOK := m.termAt(i)
		if got, ok := l.Term(i); got != want || ok != wantOK {
			t.Fatalf("Term(%d): %d, %v, not %d, %v", i, got, ok, want, wantOK)
		}
		members, _ := m.membersAt(i)
		if got := l.MembersAt(i); got != members {
			t.Fatalf("MembersAt(%d): %d, not %d", i, got, members)
		}
		for _, n := range []int{math.MinInt, -1, 0, 1, 2, len(m.entries), most} {
			if got, want := l.From(i, n), m.from(i, n); !slices.Equal(got, want) {
				t.Fatalf("From(%d, %d): %.500v\nnot %.500v", i, n, got, want)
			}
		}
		for _, term := range []uint64{0, max(lastTerm, 1) - 1, lastTerm, lastTerm + 1, math.MaxUint64} {
			if got, want := l.AsNew(i, term), m.asNew(i, term); got != want {
				t.Fatalf("AsNew(%d, %d): %v", i, term, got)
			}
		}
	}
}

// put is a Put that is done to both; it reports whether it returned true.
func put(t *testing.T, l *logs.Log, m *model, index, term uint64, entries []api.Entry) bool {
	t.Helper()
	next, wantOK, wantMatch, wantFresh := m.put(index, term, entries)
	ok, match, fresh := l.Put(index, term, entries)
	if ok != wantOK || match != wantMatch || !slices.Equal(fresh, wantFresh) {
		t.Fatalf("Put(%d, %d, %.300v): %v, %d, %.300v\nnot %v, %d, %.300v", index, term, entries, ok, match, fresh, wantOK, wantMatch, wantFresh)
	}
	*m = next
	return ok
}

// cut is a Cut that is done to both.
func cut(t *testing.T, l *logs.Log, m *model, index uint64) {
	t.Helper()
	next, want := m.cut(index)
	if e := l.Cut(index); e != want {
		t.Fatalf("Cut(%d): %d, not %d", index, e, want)
	}
	*m = next
}

// everyTerms calls f with all lists of n terms from least to greatest that never decrease, if they must not.
func everyTerms(n int, least, greatest uint64, mayDecrease bool, f func(terms []uint64)) {
	if n == 0 {
		f(nil)
		return
	}
	for term := least; term <= greatest; term++ {
		from := term
		if mayDecrease {
			from = least
		}
		everyTerms(n-1, from, greatest, mayDecrease, func(rest []uint64) { f(append([]uint64{term}, rest...)) })
	}
}

// everyLog calls f with all logs of a few entries of a few terms, at a few beginnings.
func everyLog(f func(m model)) {
	for index := range uint64(3) {
		for term := range uint64(3) {
			for n := range 4 {
				everyTerms(n, term, 2, false, func(terms []uint64) {
					f(model{index: index, term: term, members: 7, entries: datas("old", index+1, terms...)})
				})
			}
		}
	}
}

// anyEntries are up to n entries that fit. Their terms grow seldom, and some of them are membership entries, or nearly.
func anyEntries(random *rand.Rand, who string, index, term uint64, n int) []api.Entry {
	var entries []api.Entry
	for range random.Intn(n + 1) {
		index++
		if random.Intn(4) == 0 {
			term += uint64(random.Intn(3))
		}
		entries = append(entries, anyEntry(random, who, index, term))
	}
	return entries
}

func anyEntry(random *rand.Rand, who string, index, term uint64) api.Entry {
	e := data(index, term, who)
	if random.Intn(3) == 0 {
		e = conf(index, term, uint8(random.Intn(256)))
	}
	switch random.Intn(12) {
	case 0:
		e.Kind = uint8(random.Intn(256))
	case 1:
		e.Body = strings.Repeat("\x07", random.Intn(3))
	}
	return e
}

// lying returns a string that lies in these bytes, and changes with them.
func lying(b []byte) string { return unsafe.String(&b[0], len(b)) }

// liesIn reports whether a lies in the bytes of b.
func liesIn(a, b string) bool {
	from := uintptr(unsafe.Pointer(unsafe.StringData(b)))
	at := uintptr(unsafe.Pointer(unsafe.StringData(a)))
	return len(a) > 0 && at >= from && at < from+uintptr(len(b))
}
