package reads_test

import (
	"math"
	"slices"
	"testing"

	"wapentake/reads"
)

type read = reads.Read

// greatest is the greatest id, index and round.
const greatest uint64 = math.MaxUint64

// call is one call: 'a' (Ask), 'b' (Begin), 't' (Told), 'd' (Drop). First is the id, the index, or the round told; second is the round begun.
type call struct {
	kind          byte
	first, second uint64
}

func ask(id uint64) call             { return call{'a', id, 0} }
func begin(index, round uint64) call { return call{'b', index, round} }
func told(round uint64) call         { return call{'t', round, 0} }
func drop() call                     { return call{kind: 'd'} }

// answer is what a call returned: what is not of its kind is zero.
type answer struct {
	ok    bool
	count int
	reads []read
	ids   []uint64
}

func (a answer) is(b answer) bool {
	return a.ok == b.ok && a.count == b.count && slices.Equal(a.reads, b.reads) && slices.Equal(a.ids, b.ids)
}

// of makes the call.
func (c call) of(r *reads.Reads) answer {
	switch c.kind {
	case 'a':
		return answer{ok: r.Ask(c.first)}
	case 'b':
		return answer{count: r.Begin(c.first, c.second)}
	case 't':
		return answer{reads: r.Told(c.first)}
	}
	return answer{ids: r.Drop()}
}

// item is a read by the chapter's words.
type item struct {
	read
	isBegun bool
}

// model is a list of reads by the chapter's words, each of which is looked for in all of it. Its memory is never changed, but replaced.
type model []item

// after is what c returns of m, and what is in the list then.
func (m model) after(c call) (model, answer) {
	switch c.kind {
	case 'a':
		return m.afterAsk(c.first)
	case 'b':
		return m.afterBegin(c.first, c.second)
	case 't':
		return m.afterTold(c.first)
	}
	var ids []uint64
	for _, i := range m {
		ids = append(ids, i.Id)
	}
	return nil, answer{ids: ids}
}

func (m model) afterAsk(id uint64) (model, answer) {
	for _, i := range m {
		if i.Id == id {
			return m, answer{}
		}
	}
	return append(slices.Clone(m), item{read: read{Id: id}}), answer{ok: true}
}

func (m model) afterBegin(index, round uint64) (model, answer) {
	for _, i := range m {
		if i.isBegun && i.Index > index {
			index = i.Index
		}
		if i.isBegun && i.Round > round {
			round = i.Round
		}
	}
	var next model
	count := 0
	for _, i := range m {
		if !i.isBegun {
			i = item{read{i.Id, index, round}, true}
			count++
		}
		next = append(next, i)
	}
	return next, answer{count: count}
}

func (m model) afterTold(round uint64) (model, answer) {
	var next model
	var told []read
	for _, i := range m {
		if i.isBegun && !(i.Round > round) {
			told = append(told, i.read)
		} else {
			next = append(next, i)
		}
	}
	return next, answer{reads: told}
}

// lens is what Len returns.
func (m model) lens() (begun, waiting int) {
	for _, i := range m {
		if i.isBegun {
			begun++
		} else {
			waiting++
		}
	}
	return begun, waiting
}

// hasLen demands what Len returns.
func hasLen(t *testing.T, r *reads.Reads, begun, waiting int) {
	t.Helper()
	if a, b := r.Len(); a != begun || b != waiting {
		t.Fatalf("Len: %d, %d, not %d, %d", a, b, begun, waiting)
	}
}

// do makes a call of both, and demands the same answer and the same Len.
func do(t *testing.T, r *reads.Reads, m *model, c call) answer {
	t.Helper()
	next, want := m.after(c)
	got := c.of(r)
	if !got.is(want) {
		t.Fatalf("%c %d %d of %v: %v, not %v", c.kind, c.first, c.second, *m, got, want)
	}
	*m = next
	begun, waiting := m.lens()
	hasLen(t, r, begun, waiting)
	return got
}

// with makes a new list and calls all these.
func with(t *testing.T, calls ...call) *reads.Reads {
	t.Helper()
	r, m := reads.New(), model{}
	for _, c := range calls {
		do(t, r, &m, c)
	}
	return r
}

// step is a call with what it must return, and Len behind it.
type step struct {
	call
	want           answer
	begun, waiting int
}

// areSteps makes the calls one after the other, each of which must return what it says.
func areSteps(t *testing.T, r *reads.Reads, steps ...step) {
	t.Helper()
	for n, s := range steps {
		if got := s.of(r); !got.is(s.want) {
			t.Fatalf("call %d, %c %d %d: %v, not %v", n, s.kind, s.first, s.second, got, s.want)
		}
		hasLen(t, r, s.begun, s.waiting)
	}
}

func yes() answer               { return answer{ok: true} }
func no() answer                { return answer{} }
func these(n int) answer        { return answer{count: n} }
func back(list ...read) answer  { return answer{reads: list} }
func gone(ids ...uint64) answer { return answer{ids: ids} }
