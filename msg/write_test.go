package msg_test

import (
	"math"
	"slices"
	"strings"
	"testing"

	"wapentake/api"
	"wapentake/msg"
)

func TestExamples(t *testing.T) {
	for _, x := range []struct {
		m api.Msg
		s string
	}{
		{api.Msg{Kind: api.MVote, From: 1, To: 2, Term: 3, Index: 4, LogTerm: 2}, "\x01\x01\x02\x03\x04\x02\x00\x00\x00\x00\x00\x00\x00"},
		{api.Msg{Kind: api.MVoteTell, From: 2, To: 1, Term: 3, OK: true}, "\x02\x02\x01\x03\x00\x00\x00\x00\x01\x00\x00\x00\x00"},
		{api.Msg{Kind: api.MAppend, From: 1, To: 3, Term: 2, Commit: 1, Round: 128, Entries: []api.Entry{noop}}, "\x03\x01\x03\x02\x00\x00\x01\x81\x00\x00\x00\x00\x01\x03\x01\x01\x02\x00"},
		{api.Msg{Kind: api.MAppend, From: 1, To: 3, Term: 2, Index: 127, LogTerm: 1, Commit: 1, Round: 9, Entries: []api.Entry{data, {Index: 129, Term: 2, Kind: api.EConf, Body: "\x07"}}}, "\x03\x01\x03\x02\x7f\x01\x01\x09\x00\x00\x00\x02\x10\x03\x81\x00\x02\x0212345678\x02xy\x06\x02\x81\x01\x02\x01\x07\x00"},
		{api.Msg{Kind: api.MAppTell, From: 3, To: 1, Term: 2, Index: 1, Round: 128, OK: true}, "\x04\x03\x01\x02\x01\x00\x00\x81\x00\x01\x00\x00\x00\x00"},
		{api.Msg{Kind: api.MSection, From: 5, To: 4, Term: 2, Index: 7, LogTerm: 1, Members: 31, Section: 4, Body: "xyz"}, "\x05\x05\x04\x02\x07\x01\x00\x00\x00\x1f\x04\x00\x03xyz"},
		{api.Msg{Kind: api.MSecTell, From: 4, To: 5, Term: 2, Index: 7, Section: 3}, "\x06\x04\x05\x02\x07\x00\x00\x00\x00\x00\x03\x00\x00"},
		{api.Msg{Kind: api.MStandNow, From: 1, To: 5, Term: math.MaxUint64}, "\x07\x01\x05\x81" + ffs + "\x7f\x00\x00\x00\x00\x00\x00\x00\x00\x00"},
		{plain, "\x03\x01\x02\x82\x2c\x04\x05\x06\x07\x01\x08\x04\x00\x04body"},
	} {
		if s := msg.Write(x.m); s != x.s || !msg.Right(x.m) {
			t.Errorf("%v is written as %x, not %x, and right: %v", x.m, s, x.s, msg.Right(x.m))
		}
		if m, ok := msg.Read(x.s); !equal(m, x.m) || !ok {
			t.Errorf("%x is read as %v, %v", x.s, m, ok)
		}
	}
	for _, m := range []api.Msg{
		{},
		{Kind: api.MVoteTell, From: 1, To: 6},
		{Kind: 8, From: 1, To: 2},
		{Kind: api.MSection, From: 1, To: 2, Section: 5},
	} {
		if s := msg.Write(m); s != "" || msg.Right(m) {
			t.Errorf("%v is written as %x, and right: %v", m, s, msg.Right(m))
		}
	}
}

func TestMessagesAtTheEdges(t *testing.T) {
	for _, m := range validMsgs() {
		if !isAsByHand(t, m) {
			t.Fatalf("%.300v is not valid", m)
		}
	}
	for _, m := range wrongMsgs() {
		if isAsByHand(t, m) {
			t.Fatalf("%.300v is valid", m)
		}
	}
}

func TestEveryByteInEveryFieldOfOne(t *testing.T) {
	for n := range 256 {
		for _, x := range []struct {
			name        string
			least, most int
			set         func(*api.Msg, uint8)
		}{
			{"Kind", 1, 7, func(m *api.Msg, n uint8) { m.Kind = n }},
			{"From", 1, 5, func(m *api.Msg, n uint8) { m.From = n }},
			{"To", 1, 5, func(m *api.Msg, n uint8) { m.To = n }},
			{"Members", 0, 31, func(m *api.Msg, n uint8) { m.Members = n }},
			{"Section", 0, 4, func(m *api.Msg, n uint8) { m.Section = n }},
		} {
			want := n >= x.least && n <= x.most
			for _, m := range []api.Msg{plain, {Kind: 7, From: 5, To: 5}, {Kind: 1, From: 1, To: 2, Entries: []api.Entry{noop}}} {
				x.set(&m, uint8(n))
				if is := isAsByHand(t, m); is != want {
					t.Errorf("%s %d: %v", x.name, n, is)
				}
			}
		}
	}
}

func TestEdgesOfSeveralFields(t *testing.T) {
	for _, kind := range []uint8{0, 1, 7, 8, 255} {
		for _, from := range []uint8{0, 1, 5, 6} {
			for _, to := range []uint8{0, 1, 5, 6} {
				for _, members := range []uint8{0, 31, 32} {
					for _, section := range []uint8{0, 4, 5} {
						for _, many := range []int{0, 1, 8, 9} {
							m := api.Msg{Kind: kind, From: from, To: to, Members: members, Section: section, Entries: slices.Repeat([]api.Entry{noop}, many)}
							want := (kind == 1 || kind == 7) && (from == 1 || from == 5) && (to == 1 || to == 5) && members != 32 && section != 5 && many != 9
							if is := isAsByHand(t, m); is != want {
								t.Errorf("%v: %v", m, is)
							}
						}
					}
				}
			}
		}
	}
}

func TestEveryKindMayHaveEveryField(t *testing.T) {
	for kind := range uint8(9) {
		for set := range 1 << 10 {
			m := api.Msg{Kind: kind, From: 3, To: 4, OK: set&1 != 0}
			for i, field := range []*uint64{&m.Term, &m.Index, &m.LogTerm, &m.Commit, &m.Round} {
				if set>>(i+1)&1 == 1 {
					*field = uint64(i + 126)
				}
			}
			if set&64 != 0 {
				m.Members = 9
			}
			if set&128 != 0 {
				m.Section = 2
			}
			if set&256 != 0 {
				m.Entries = []api.Entry{noop, data}
			}
			if set&512 != 0 {
				m.Body = "b"
			}
			if is := isAsByHand(t, m); is != (kind >= 1 && kind <= 7) {
				t.Fatalf("%v: %v", m, is)
			}
		}
	}
}

func TestHowManyEntries(t *testing.T) {
	for _, n := range []int{0, 1, 2, 7, 8, 9, 10, 127, 128, 255, 256, 257, 263, 264, 265, 512, 1 << 16, 1<<16 + 1} {
		for _, e := range validEntries() {
			m := api.Msg{Kind: 3, From: 1, To: 2, Entries: slices.Repeat([]api.Entry{e}, n)}
			if is := isAsByHand(t, m); is != (n <= 8) {
				t.Errorf("%d Entries: %v", n, is)
			}
		}
	}
}

func TestAnEntryThatIsNotValid(t *testing.T) {
	for _, wrong := range wrongEntries() {
		for n := 1; n <= 8; n++ {
			for at := range n {
				es := slices.Clone(validEntries()[:n])
				if !isAsByHand(t, api.Msg{Kind: 3, From: 1, To: 2, Entries: es}) {
					t.Fatalf("%d valid Entries", n)
				}
				es[at] = wrong
				if isAsByHand(t, api.Msg{Kind: 3, From: 1, To: 2, Entries: es}) {
					t.Fatalf("%v at %d of %d", wrong, at, n)
				}
			}
		}
	}
}

// TestLengthsAreNoMatter: whether a message is valid hangs neither on its Bodies' lengths nor on what is in them; the length of its encoding hangs on the lengths alone.
func TestLengthsAreNoMatter(t *testing.T) {
	withBodies := func(m api.Msg, body string) api.Msg {
		m.Body = body
		m.Entries = slices.Clone(m.Entries)
		for i := range m.Entries {
			if kind := m.Entries[i].Kind; kind == api.EData || kind == api.EOper {
				m.Entries[i].Body = body
			}
		}
		return m
	}
	full := plain
	full.Entries = validEntries()
	some := append(wrongMsgs()[:60], plain, full, api.Msg{Kind: 1, From: 1, To: 2})
	for _, m := range some {
		valid := msg.Right(m)
		for _, body := range bodies() {
			m := withBodies(m, body)
			if isAsByHand(t, m) != valid {
				t.Fatalf("%.300v is valid: %v, with bodies of %d bytes not so", m, valid, len(body))
			}
			other := withBodies(m, strings.Repeat("\x80", len(body)))
			if len(msg.Write(other)) != len(msg.Write(m)) {
				t.Fatalf("bodies of %d bytes have other lengths with other bytes", len(body))
			}
		}
	}
}

func TestMessagesAreLeftAsTheyAre(t *testing.T) {
	for n := range 11 {
		spare := slices.Repeat([]api.Entry{data}, 12)
		was := slices.Clone(spare)
		for kind := range uint8(9) {
			m := api.Msg{Kind: kind, From: 1, To: 2, Entries: spare[:n]}
			msg.Right(m)
			msg.Write(m)
			msg.Same(m, m)
			msg.Copy(m)
			if !slices.Equal(spare, was) {
				t.Fatalf("Kind %d with %d Entries: they became %v", kind, n, spare)
			}
		}
	}
}

func TestEncodingsShareNoMemory(t *testing.T) {
	for _, m := range validMsgs() {
		s := msg.Write(m)
		got, _ := msg.Read(s)
		for _, text := range texts(m) {
			if liesIn(s, text) || liesIn(text, s) {
				t.Fatalf("%.200x shares memory with what it encodes", s)
			}
		}
		for _, text := range texts(got) {
			if liesIn(text, s) {
				t.Fatalf("%.200x shares memory with what is read", s)
			}
		}
	}
}

func TestWhatIsReadIsNewEachTime(t *testing.T) {
	for n := range 9 {
		m := plain
		m.Entries = validEntries()[:n]
		s := byHand(m)
		a, _ := msg.Read(s)
		b, _ := msg.Read(s)
		clear(a.Entries[:cap(a.Entries)])
		if again, _ := msg.Read(s); !equal(b, m) || !equal(again, m) {
			t.Fatalf("with %d Entries: a change of one answer changed another one", n)
		}
	}
}
