package entry_test

import (
	"math"
	"math/rand"
	"slices"
	"strings"
	"testing"

	"wapentake/api"
	"wapentake/entry"
)

const ffs = "\xff\xff\xff\xff\xff\xff\xff\xff"

var token = api.Token{'1', '2', '3', '4', '5', '6', '7', '8'}

// tokens are those at the edges: nothing, anything, one bit first and last, all bits.
var tokens = []api.Token{{}, token, {0: 1}, {0: 128}, {7: 1}, {7: 128}, api.Token([]byte(ffs))}

// numbers are those at the edges of nothing, of a byte, of every count of digits, of the greatest index that is promised, and of what there is.
var numbers = []uint64{0, 1, 2, 127, 128, 129, 255, 256, 257, 16383, 16384, 1<<21 - 1, 1 << 21, 1<<28 - 1, 1 << 28, 1 << 32, 1<<35 - 1, 1 << 35, 1 << 40, 1<<42 - 1, 1 << 42, 1<<49 - 1, 1 << 49, 1<<56 - 1, 1 << 56, 1<<63 - 1, 1 << 63, math.MaxUint64 - 1, math.MaxUint64}

// notGroups are bytes that the groups of a number do not begin with, whatever follows them.
var notGroups = []string{
	"\x80\x00", "\x80\x01", "\x80\x80\x00", "\x80\x81\x00", // a leading zero digit
	"\x82" + ffs + "\x7f", "\x81\x80\x80\x80\x80\x80\x80\x80\x80\x80\x00", // above 2^64 - 1
}

// kinds are those of entries, and those near by.
var kinds = []uint8{0, 1, 2, 3, 4, 5, 6, 7, 128, 129, 130, 131, 132, 133, 254, 255}

// bodies are strings of awkward bytes, of memberships and near by, at the edges of a length's digits, and long.
func bodies() []string {
	ss := []string{"", "\x00", "\x01", "\x07", "\x1f", " ", "!", "\x80", "\x81", "\xff", "xy", "\x01\x00", "\x00\x01", "\x01\x01", "\x01\x07", "\xe4\xb8", "\x81\x00"}
	for _, n := range []int{3, 126, 127, 128, 129, 255, 256, 257, 16383, 16384, 16385, 1 << 20} {
		ss = append(ss, strings.Repeat("\x07", n), strings.Repeat("\xff", n))
	}
	return ss
}

// digits are the groups of n, as chapter 1 defines them.
func digits(n uint64) string {
	s := octet(uint8(n % 128))
	for n /= 128; n > 0; n /= 128 {
		s = octet(uint8(n%128+128)) + s
	}
	return s
}

func row(s string) string { return digits(uint64(len(s))) + s }

func octet(n uint8) string { return string([]byte{n}) }

// byHand returns the encoding of an entry, or the empty string, by the chapter's words.
func byHand(e api.Entry) string {
	if e.Index == 0 || e.Term == 0 {
		return ""
	}
	head := octet(e.Kind) + digits(e.Index) + digits(e.Term)
	bare := e.Slot == 0 && e.Token == api.Token{}
	switch e.Kind {
	case 1, 5:
		if bare && e.Body == "" {
			return head
		}
	case 2:
		for m := range 31 {
			if bare && e.Body == octet(uint8(m+1)) {
				return head + row(e.Body)
			}
		}
	case 3:
		if e.Slot <= 3 {
			return head + octet(e.Slot) + string(e.Token[:]) + row(e.Body)
		}
	case 4:
		if bare {
			return head + row(e.Body)
		}
	}
	return ""
}

// isAsByHand demands of any entry that it is valid or not, and written, as by hand, and read again if it is valid; it reports whether it is.
func isAsByHand(t *testing.T, e api.Entry) bool {
	t.Helper()
	want := byHand(e)
	if entry.Right(e) != (want != "") {
		t.Fatalf("Right: %v, for %.300v", want == "", e)
	}
	if got := entry.Write(e); got != want {
		t.Fatalf("%.200x, not %.200x, for %.300v", got, want, e)
	}
	if want == "" {
		return false
	}
	if got, ok := entry.Read(want); !ok || got != e {
		t.Fatalf("%.200x read as %.300v, %v, not %.300v", want, got, ok, e)
	}
	return true
}

// isNothing demands that s is no encoding.
func isNothing(t *testing.T, s string) {
	t.Helper()
	if e, ok := entry.Read(s); ok || e != (api.Entry{}) {
		t.Fatalf("%.200x read as %.300v, %v", s, e, ok)
	}
}

// isReadAsItWasWritten demands that s is no encoding, or the encoding of what is read; it reports which.
func isReadAsItWasWritten(t *testing.T, s string) bool {
	t.Helper()
	e, ok := entry.Read(s)
	if !ok && e != (api.Entry{}) {
		t.Fatalf("%x read as %v, %v", s, e, ok)
	}
	if ok && (!entry.Right(e) || byHand(e) != s || entry.Write(e) != s) {
		t.Fatalf("%x read as %v, which is right: %v, and written as %x", s, e, entry.Right(e), entry.Write(e))
	}
	return ok
}

// validEntries are entries of every Kind, with everything at the edges in each field that may have something.
func validEntries() []api.Entry {
	var all []api.Entry
	for _, n := range numbers[1:] {
		for _, e := range []api.Entry{{Index: n, Term: 1}, {Index: 1, Term: n}, {Index: n, Term: n}} {
			e.Kind = api.ENoop
			all = append(all, e)
			e.Kind = api.ETick
			all = append(all, e)
			e.Kind = api.EOper
			all = append(all, e)
			e.Kind, e.Body = api.EConf, "\x05"
			all = append(all, e)
			e.Kind, e.Slot, e.Token, e.Body = api.EData, 3, token, "xy"
			all = append(all, e)
		}
	}
	for m := uint8(1); m <= 31; m++ {
		all = append(all, api.Entry{Index: 3, Term: 2, Kind: api.EConf, Body: octet(m)})
	}
	for _, body := range bodies() {
		all = append(all, api.Entry{Index: 3, Term: 2, Kind: api.EOper, Body: body})
		for slot := range uint8(4) {
			all = append(all, api.Entry{Index: 3, Term: 2, Kind: api.EData, Slot: slot, Token: token, Body: body})
		}
	}
	for _, tok := range tokens {
		all = append(all, api.Entry{Index: 3, Term: 2, Kind: api.EData, Slot: 1, Token: tok}, api.Entry{Index: 3, Term: 2, Kind: api.EData, Token: tok, Body: "b"})
	}
	return all
}

// bent changes, drops or puts in up to three bytes of s.
func bent(random *rand.Rand, s string) string {
	b := []byte(s)
	for range 1 + random.Intn(3) {
		at := random.Intn(len(b) + 1)
		n := byte(random.Intn(256))
		if random.Intn(2) == 0 {
			n %= 7
		}
		switch {
		case random.Intn(3) == 0:
			b = slices.Insert(b, at, n)
		case at == len(b):
		case random.Intn(2) == 0:
			b = slices.Delete(b, at, at+1)
		default:
			b[at] = n
		}
	}
	return string(b)
}
