package msg_test

import (
	"math"
	"math/rand"
	"reflect"
	"slices"
	"strings"
	"testing"
	"unsafe"

	"wapentake/api"
	"wapentake/entry"
	"wapentake/msg"
)

const ffs = "\xff\xff\xff\xff\xff\xff\xff\xff"

var (
	noop = api.Entry{Index: 1, Term: 2, Kind: api.ENoop}
	data = api.Entry{Index: 128, Term: 2, Kind: api.EData, Slot: 2, Token: api.Token{'1', '2', '3', '4', '5', '6', '7', '8'}, Body: "xy"}
)

// plain is a message of which every field, but for the Entries, has something that no other one has.
var plain = api.Msg{Kind: 3, From: 1, To: 2, Term: 300, Index: 4, LogTerm: 5, Commit: 6, Round: 7, OK: true, Members: 8, Section: 4, Body: "body"}

// numbers are those at both ends of the range, at the edges of every count of digits, and of the greatest index that is promised.
var numbers = []uint64{0, 1, 2, 127, 128, 129, 255, 256, 16383, 16384, 1<<21 - 1, 1 << 21, 1<<28 - 1, 1 << 28, 1 << 32, 1<<35 - 1, 1 << 35, 1 << 40, 1<<42 - 1, 1 << 42, 1<<49 - 1, 1 << 49, 1<<56 - 1, 1 << 56, 1<<63 - 1, 1 << 63, math.MaxUint64 - 1, math.MaxUint64}

// notGroups are bytes that the groups of a number do not begin with, whatever follows them.
var notGroups = []string{
	"\x80\x00", "\x80\x01", "\x80\x80\x00", "\x80\x81\x00", // a leading zero digit
	"\x82" + ffs + "\x7f", "\x81\x80\x80\x80\x80\x80\x80\x80\x80\x80\x00", // above 2^64 - 1
}

// bodies are strings of awkward bytes, at the edges of a length's digits, and long.
func bodies() []string {
	ss := []string{"", "b", "\x00", "\x01", "\x80", "\xff", "\x00\x00", "\x01\x00", "\x81\x00", "\xe4\xb8"}
	for _, n := range []int{3, 64, 65, 127, 128, 129, 255, 256, 16383, 16384, 1 << 20} {
		ss = append(ss, strings.Repeat("\x01", n), strings.Repeat("\xff", n))
	}
	return ss
}

// validEntries are one of each Kind, and some with more in them.
func validEntries() []api.Entry {
	return []api.Entry{
		noop, data,
		{Index: 3, Term: 3, Kind: api.EConf, Body: "\x1f"},
		{Index: 4, Term: 3, Kind: api.EOper, Body: "o"},
		{Index: 5, Term: 3, Kind: api.ETick},
		{Index: math.MaxUint64, Term: math.MaxUint64, Kind: api.EData, Slot: 3},
		{Index: 6, Term: 3, Kind: api.EOper, Body: strings.Repeat("o", 128)},
		{Index: 6, Term: 3, Kind: api.EData, Body: strings.Repeat("d", 1000)},
	}
}

// wrongEntries are each not valid, by one field or by several.
func wrongEntries() []api.Entry {
	return []api.Entry{
		{},
		{Term: 2, Kind: api.ENoop},
		{Index: 1, Kind: api.ENoop},
		{Index: 1, Term: 2},
		{Index: 1, Term: 2, Kind: 6},
		{Index: 1, Term: 2, Kind: 255},
		{Index: 1, Term: 2, Kind: api.ENoop, Slot: 1},
		{Index: 1, Term: 2, Kind: api.ENoop, Token: api.Token{1}},
		{Index: 1, Term: 2, Kind: api.ENoop, Body: "b"},
		{Index: 1, Term: 2, Kind: api.EConf},
		{Index: 1, Term: 2, Kind: api.EConf, Body: " "},
		{Index: 1, Term: 2, Kind: api.EConf, Body: "\x01\x01"},
		{Index: 1, Term: 2, Kind: api.EData, Slot: 4, Token: data.Token, Body: "b"},
		{Index: 1, Term: 2, Kind: api.EOper, Slot: 1, Body: "b"},
		{Index: 1, Term: 2, Kind: api.ETick, Body: "b"},
	}
}

// digits are the groups of n, as chapter 1 defines them.
func digits(n uint64) string {
	s := octet(uint8(n % 128))
	for n /= 128; n > 0; n /= 128 {
		s = octet(uint8(n%128+128)) + s
	}
	return s
}

func row(s string) string { return digits(uint64(len(s))) + s }

func octet(n uint8) string { return string([]byte{n}) }

// isValid is what a message must be to be valid, by the chapter's words.
func isValid(m api.Msg) bool {
	if m.Kind == 0 || m.Kind > 7 || m.From == 0 || m.From > 5 || m.To == 0 || m.To > 5 || m.Members > 31 || m.Section > 4 || len(m.Entries) > 8 {
		return false
	}
	for _, e := range m.Entries {
		if !entry.Right(e) {
			return false
		}
	}
	return true
}

// byHand returns the encoding of a message, or the empty string, by the chapter's words.
func byHand(m api.Msg) string {
	if !isValid(m) {
		return ""
	}
	s := octet(m.Kind) + octet(m.From) + octet(m.To)
	s += digits(m.Term) + digits(m.Index) + digits(m.LogTerm) + digits(m.Commit) + digits(m.Round)
	if m.OK {
		s += "\x01"
	} else {
		s += "\x00"
	}
	s += octet(m.Members) + octet(m.Section) + octet(uint8(len(m.Entries)))
	for _, e := range m.Entries {
		s += row(entry.Write(e))
	}
	return s + row(m.Body)
}

// before is the encoding of plain up to the number of Entries.
func before() string {
	s := byHand(plain)
	return s[:len(s)-len("\x00\x04body")]
}

// equal holds messages against each other without Same; an empty slice is nil, too (R5).
func equal(a, b api.Msg) bool {
	if len(a.Entries) == 0 && len(b.Entries) == 0 {
		a.Entries, b.Entries = nil, nil
	}
	return reflect.DeepEqual(a, b)
}

// isZero reports whether a message has nothing in any field.
func isZero(m api.Msg) bool { return equal(m, api.Msg{}) }

// isAsByHand demands of any message that it is valid or not, and written, as by hand, and read again if it is valid; it reports whether it is.
func isAsByHand(t *testing.T, m api.Msg) bool {
	t.Helper()
	want := byHand(m)
	if msg.Right(m) != (want != "") {
		t.Fatalf("Right: %v, for %.300v", want == "", m)
	}
	if got := msg.Write(m); got != want {
		t.Fatalf("%.200x, not %.200x, for %.300v", got, want, m)
	}
	if want == "" {
		return false
	}
	if got, ok := msg.Read(want); !ok || !equal(got, m) {
		t.Fatalf("%.200x read as %.300v, %v, not %.300v", want, got, ok, m)
	}
	return true
}

// isNothing demands that s is no encoding.
func isNothing(t *testing.T, s string) {
	t.Helper()
	if m, ok := msg.Read(s); ok || !isZero(m) {
		t.Fatalf("%.200x read as %.300v, %v", s, m, ok)
	}
}

// isReadAsItWasWritten demands that s is no encoding, or the encoding of what is read; it reports which.
func isReadAsItWasWritten(t *testing.T, s string) bool {
	t.Helper()
	m, ok := msg.Read(s)
	if !ok && !isZero(m) {
		t.Fatalf("%x read as %v, %v", s, m, ok)
	}
	if ok && (!msg.Right(m) || byHand(m) != s || msg.Write(m) != s) {
		t.Fatalf("%x read as %v, which is right: %v, and written as %x", s, m, msg.Right(m), msg.Write(m))
	}
	return ok
}

// validMsgs are messages with everything at the edges in each field.
func validMsgs() []api.Msg {
	var all []api.Msg
	with := func(change func(*api.Msg)) {
		for _, m := range []api.Msg{plain, {Kind: 1, From: 1, To: 1}} {
			change(&m)
			all = append(all, m)
		}
	}
	for kind := uint8(1); kind <= 7; kind++ {
		with(func(m *api.Msg) { m.Kind = kind })
	}
	for from := uint8(1); from <= 5; from++ {
		for to := uint8(1); to <= 5; to++ {
			with(func(m *api.Msg) { m.From, m.To = from, to })
		}
	}
	for _, n := range numbers {
		with(func(m *api.Msg) { m.Term = n })
		with(func(m *api.Msg) { m.Index = n })
		with(func(m *api.Msg) { m.LogTerm = n })
		with(func(m *api.Msg) { m.Commit = n })
		with(func(m *api.Msg) { m.Round = n })
		with(func(m *api.Msg) { m.Term, m.Index, m.LogTerm, m.Commit, m.Round = n, n, n, n, n })
	}
	for members := range uint8(32) {
		with(func(m *api.Msg) { m.Members, m.OK = members, members%2 == 0 })
	}
	for section := range uint8(5) {
		with(func(m *api.Msg) { m.Section, m.OK = section, section%2 == 0 })
	}
	for _, body := range bodies() {
		with(func(m *api.Msg) { m.Body = body })
		with(func(m *api.Msg) { m.Entries = []api.Entry{noop, {Index: 2, Term: 2, Kind: api.EOper, Body: body}} })
	}
	es := validEntries()
	for n := range 9 {
		with(func(m *api.Msg) { m.Entries = es[:n] })
		with(func(m *api.Msg) { m.Entries = es[8-n:] })
		for _, e := range es {
			with(func(m *api.Msg) { m.Entries = slices.Repeat([]api.Entry{e}, n) })
		}
	}
	return all
}

// wrongMsgs are each not valid, most of them by a single field, or by From and To.
func wrongMsgs() []api.Msg {
	var all []api.Msg
	with := func(change func(*api.Msg)) {
		m := plain
		m.Entries = []api.Entry{noop, data}
		change(&m)
		all = append(all, m)
	}
	for _, n := range []uint8{0, 8, 9, 128, 129, 255} {
		with(func(m *api.Msg) { m.Kind = n })
	}
	for _, n := range []uint8{0, 6, 7, 128, 129, 255} {
		with(func(m *api.Msg) { m.From = n })
		with(func(m *api.Msg) { m.To = n })
		with(func(m *api.Msg) { m.From, m.To = n, n })
	}
	for _, n := range []uint8{32, 33, 63, 64, 128, 224, 255} {
		with(func(m *api.Msg) { m.Members = n })
	}
	for _, n := range []uint8{5, 6, 128, 132, 255} {
		with(func(m *api.Msg) { m.Section = n })
	}
	for _, n := range []int{9, 10, 16, 255, 256, 257, 264, 512, 1<<16 + 1} {
		with(func(m *api.Msg) { m.Entries = slices.Repeat([]api.Entry{noop}, n) })
	}
	for _, wrong := range wrongEntries() {
		for n := 1; n <= 9; n++ {
			for at := range n {
				es := slices.Repeat([]api.Entry{data}, n)
				es[at] = wrong
				with(func(m *api.Msg) { m.Entries = es })
			}
		}
	}
	return append(all, api.Msg{}, api.Msg{Kind: 255, From: 255, To: 255, Members: 255, Section: 255, Entries: make([]api.Entry, 300)})
}

// bent changes, drops or puts in up to three bytes of s.
func bent(random *rand.Rand, s string) string {
	b := []byte(s)
	for range 1 + random.Intn(3) {
		at := random.Intn(len(b) + 1)
		n := byte(random.Intn(256))
		if random.Intn(2) == 0 {
			n %= 9
		}
		switch {
		case random.Intn(3) == 0:
			b = slices.Insert(b, at, n)
		case at == len(b):
		case random.Intn(2) == 0:
			b = slices.Delete(b, at, at+1)
		default:
			b[at] = n
		}
	}
	return string(b)
}

// liesIn reports whether a lies in the bytes of b.
func liesIn(a, b string) bool {
	from := uintptr(unsafe.Pointer(unsafe.StringData(b)))
	at := uintptr(unsafe.Pointer(unsafe.StringData(a)))
	return len(a) > 0 && at >= from && at < from+uintptr(len(b))
}

// texts are all strings of a message; those of one byte all lie in the same place, and are left out.
func texts(m api.Msg) []string {
	all := []string{m.Body}
	for _, e := range m.Entries {
		all = append(all, e.Body)
	}
	return slices.DeleteFunc(all, func(s string) bool { return len(s) < 2 })
}
