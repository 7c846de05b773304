package msg_test

import (
	"slices"
	"strings"
	"testing"

	"wapentake/api"
	"wapentake/msg"
)

// areTold demands that Same tells of a and b what is so, whichever comes first.
func areTold(t *testing.T, a, b api.Msg, same bool) {
	t.Helper()
	if msg.Same(a, b) != same || msg.Same(b, a) != same {
		t.Fatalf("Same: %v, %v, of %.300v and %.300v", msg.Same(a, b), msg.Same(b, a), a, b)
	}
}

// changedInOneField returns m with something else in one field after the other, but for the Entries.
func changedInOneField(m api.Msg) []api.Msg {
	var all []api.Msg
	with := func(change func(*api.Msg)) {
		other := m
		change(&other)
		all = append(all, other)
	}
	for bit := range 8 {
		with(func(m *api.Msg) { m.Kind ^= 1 << bit })
		with(func(m *api.Msg) { m.From ^= 1 << bit })
		with(func(m *api.Msg) { m.To ^= 1 << bit })
		with(func(m *api.Msg) { m.Members ^= 1 << bit })
		with(func(m *api.Msg) { m.Section ^= 1 << bit })
	}
	for bit := range 64 {
		with(func(m *api.Msg) { m.Term ^= 1 << bit })
		with(func(m *api.Msg) { m.Index ^= 1 << bit })
		with(func(m *api.Msg) { m.LogTerm ^= 1 << bit })
		with(func(m *api.Msg) { m.Commit ^= 1 << bit })
		with(func(m *api.Msg) { m.Round ^= 1 << bit })
	}
	with(func(m *api.Msg) { m.OK = !m.OK })
	with(func(m *api.Msg) { m.Body += "\x00" })
	with(func(m *api.Msg) { m.Body = "\x00" + m.Body })
	with(func(m *api.Msg) { m.Body = strings.Repeat("\xff", len(m.Body)+1) })
	return all
}

// changedInOneEntry returns es with something else in one field of one entry after the other, or with an entry more or less, or in another order.
func changedInOneEntry(es []api.Entry) [][]api.Entry {
	var all [][]api.Entry
	for at := range es {
		with := func(change func(*api.Entry)) {
			other := slices.Clone(es)
			change(&other[at])
			all = append(all, other)
		}
		for bit := range 64 {
			with(func(e *api.Entry) { e.Index ^= 1 << bit })
			with(func(e *api.Entry) { e.Term ^= 1 << bit })
			with(func(e *api.Entry) { e.Token[bit/8] ^= 1 << (bit % 8) })
		}
		for bit := range 8 {
			with(func(e *api.Entry) { e.Kind ^= 1 << bit })
			with(func(e *api.Entry) { e.Slot ^= 1 << bit })
		}
		with(func(e *api.Entry) { e.Body += "b" })
		with(func(e *api.Entry) { e.Body = "b" + e.Body + "b" })
		all = append(all, slices.Delete(slices.Clone(es), at, at+1), slices.Insert(slices.Clone(es), at, api.Entry{}), es[:at])
	}
	all = append(all, append(slices.Clone(es), api.Entry{}))
	if len(es) > 1 {
		swapped := slices.Clone(es)
		slices.Reverse(swapped)
		all = append(all, swapped)
	}
	return all
}

func TestSameTellsEveryField(t *testing.T) {
	full := plain
	full.Entries = validEntries()
	for _, m := range []api.Msg{{}, plain, full, {Kind: 8, From: 255, To: 6, Members: 32, Section: 5, Entries: make([]api.Entry, 9)}} {
		areTold(t, m, m, true)
		for _, other := range changedInOneField(m) {
			areTold(t, m, other, false)
		}
	}
}

func TestSameTellsEveryEntry(t *testing.T) {
	for n := range 10 {
		for _, from := range []api.Msg{plain, {}} {
			a, b := from, from
			a.Entries = append(validEntries(), api.Entry{Kind: 6})[:n]
			b.Entries = append(validEntries(), api.Entry{Kind: 6})[:n]
			areTold(t, a, b, true)
			for _, es := range changedInOneEntry(a.Entries) {
				b.Entries = es
				areTold(t, a, b, false)
			}
		}
	}
}

func TestSameTellsNilAndEmptyToBeEqual(t *testing.T) {
	for _, m := range []api.Msg{{}, plain, {Kind: 255}} {
		a, b, c := m, m, m
		b.Entries = []api.Entry{}
		c.Entries = slices.Repeat([]api.Entry{noop}, 3)[:0]
		areTold(t, a, a, true)
		areTold(t, a, b, true)
		areTold(t, a, c, true)
		areTold(t, b, c, true)
		c.Entries = c.Entries[:1]
		areTold(t, a, c, false)
		areTold(t, b, c, false)
		c.Entries = []api.Entry{{}}
		areTold(t, a, c, false)
	}
}

// TestSameIsWhatIsEqual: any two of many messages, valid and not.
func TestSameIsWhatIsEqual(t *testing.T) {
	var some []api.Msg
	for _, m := range append(validMsgs(), wrongMsgs()...) {
		if len(m.Entries) < 10 && len(m.Body) < 1000 {
			some = append(some, m)
		}
	}
	for _, a := range some[:len(some)/3] {
		for _, b := range some {
			if msg.Same(a, b) != equal(a, b) {
				t.Fatalf("Same: %v, of %.300v and %.300v", msg.Same(a, b), a, b)
			}
		}
	}
}

func TestCopiesAreEqual(t *testing.T) {
	for _, m := range append(validMsgs(), wrongMsgs()...) {
		c := msg.Copy(m)
		if !equal(c, m) || !msg.Same(c, m) || !msg.Same(m, c) {
			t.Fatalf("%.300v is copied as %.300v", m, c)
		}
		if msg.Right(c) != msg.Right(m) || msg.Write(c) != msg.Write(m) {
			t.Fatalf("%.300v is valid and written otherwise than its copy", m)
		}
	}
}

func TestEntriesOfACopyAreItsOwn(t *testing.T) {
	for n := range 12 {
		for spare := range 4 {
			many := slices.Repeat([]api.Entry{data}, n+spare)
			was := slices.Clone(many)
			m := plain
			m.Entries = many[:n]
			a, b := msg.Copy(m), msg.Copy(m)
			// What is done to a copy, its spare capacity too, is seen neither in the message nor in another copy.
			whole := a.Entries[:cap(a.Entries)]
			for i := range whole {
				whole[i] = noop
			}
			_ = append(a.Entries, noop)
			if !slices.Equal(many, was) || !slices.Equal(b.Entries, was[:n]) {
				t.Fatalf("%d Entries of %d: a change of a copy changed the message or another copy", n, n+spare)
			}
			// Nor the other way round.
			spares := slices.Clone(b.Entries[:cap(b.Entries)])
			for i := range many {
				many[i] = noop
			}
			_ = append(m.Entries, noop)
			if !slices.Equal(b.Entries[:cap(b.Entries)], spares) || !slices.Equal(b.Entries, was[:n]) {
				t.Fatalf("%d Entries of %d: a change of the message changed a copy", n, n+spare)
			}
		}
	}
}

func TestCopiesShareNoMemory(t *testing.T) {
	for _, m := range append(validMsgs(), wrongMsgs()...) {
		a, b := texts(msg.Copy(m)), texts(msg.Copy(m))
		for i, was := range texts(m) {
			if a[i] != was || liesIn(a[i], was) || liesIn(a[i], b[i]) {
				t.Fatalf("a string of %.300v and of its copies shares memory", m)
			}
		}
	}
}
