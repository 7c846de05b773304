package num_test

import (
	"math"
	"slices"
	"strings"
	"testing"
	"unsafe"

	"wapentake/num"
)

const ffs = "\xff\xff\xff\xff\xff\xff\xff\xff"

// tails are bytes that may follow what is decoded; none of them may matter.
var tails = []string{"", "\x00", "\x7f", "\x80", "\xff", "\x80\x80", "\x81\x00", ffs + ffs, "abc"}

// notGroups are strings that do not begin with the groups of a number.
var notGroups = []string{
	"",
	"\x80", "\x80\x00", "\x80\x01", "\x80\x80", "\x80\x81\x00", // a leading zero digit
	"\x81", "\xff", "\xff\xff", "\x81\x80\x80", ffs, "\x81" + ffs, // no last digit
	"\x82" + ffs + "\x7f", "\x82\x80\x80\x80\x80\x80\x80\x80\x80\x00", "\xff" + ffs + "\x7f", // ten digits, above 2^64 - 1
	"\x81\x80\x80\x80\x80\x80\x80\x80\x80\x80\x00", ffs + ffs + "\x7f", // more than ten digits
}

// numbers are those at the edges of every count of bits, and so of every count of digits and of bytes.
func numbers() []uint64 {
	ns := []uint64{0, 300, 258, 1 << 40, 0x0102030405060708, 0x8877665544332211}
	for i := range 64 {
		ns = append(ns, 1<<i-1, 1<<i, 1<<i+1)
	}
	ns = append(ns, math.MaxUint64, math.MaxUint64-1)
	slices.Sort(ns)
	return slices.Compact(ns)
}

// texts are strings of every length around the edges of a length's digits, and of awkward bytes.
func texts() []string {
	ss := []string{"", "a", "ab", "ba", "\x00", "\x80", "\xff", "\x00\x00", "\x02ab", "\xe4\xb8", ffs}
	for _, n := range []int{63, 64, 126, 127, 128, 129, 255, 256, 16383, 16384, 16385} {
		ss = append(ss, strings.Repeat("\x81", n), strings.Repeat("x", n))
	}
	return ss
}

// everyFrom calls f with s and with every longer string of at most most bytes that begins with s.
func everyFrom(s string, most int, f func(s string)) {
	f(s)
	if len(s) == most {
		return
	}
	for c := range 256 {
		everyFrom(s+string([]byte{byte(c)}), most, f)
	}
}

func TestUExamples(t *testing.T) {
	for _, c := range []struct {
		n     uint64
		width int
		want  string
	}{
		{258, 2, "\x01\x02"},
		{258, 1, "\x02"},
		{1, 9, ""},
		{0, 1, "\x00"},
		{0, 8, "\x00\x00\x00\x00\x00\x00\x00\x00"},
		{255, 1, "\xff"},
		{256, 1, "\x00"},
		{5, 3, "\x00\x00\x05"},
		{0x0102030405060708, 8, "\x01\x02\x03\x04\x05\x06\x07\x08"},
		{0x0102030405060708, 7, "\x02\x03\x04\x05\x06\x07\x08"},
		{0x0102030405060708, 4, "\x05\x06\x07\x08"},
		{math.MaxUint64, 8, ffs},
		{math.MaxUint64, 3, "\xff\xff\xff"},
	} {
		if got := num.U(c.n, c.width); got != c.want {
			t.Errorf("U(%d, %d): %x, not %x", c.n, c.width, got, c.want)
		}
	}
}

func TestReadUExamples(t *testing.T) {
	for _, c := range []struct {
		s     string
		width int
		want  uint64
		ok    bool
	}{
		{"\x01\x02", 2, 258, true},
		{"\x01", 2, 0, false},
		{"\x01\x02\x03", 2, 258, true},
		{"\x01\x02\x03", 1, 1, true},
		{"\x00", 1, 0, true},
		{"", 1, 0, false},
		{"\x80", 1, 128, true},
		{ffs, 8, math.MaxUint64, true},
		{ffs[:7], 8, 0, false},
		{ffs[:7], 7, 1<<56 - 1, true},
		{"\x01\x02\x03\x04\x05\x06\x07\x08\x09", 8, 0x0102030405060708, true},
	} {
		if n, ok := num.ReadU(c.s, c.width); n != c.want || ok != c.ok {
			t.Errorf("ReadU(%x, %d): %d, %v, not %d, %v", c.s, c.width, n, ok, c.want, c.ok)
		}
	}
}

func TestNoSuchWidth(t *testing.T) {
	for _, width := range []int{0, 9, -1, 10, 16, 64, -8, 257, math.MaxInt, math.MinInt} {
		if got := num.U(math.MaxUint64, width); got != "" {
			t.Errorf("U of the width %d: %x", width, got)
		}
		for _, s := range []string{"", "\x01", ffs, ffs + ffs, strings.Repeat("\x01", 300)} {
			if n, ok := num.ReadU(s, width); n != 0 || ok {
				t.Errorf("ReadU(%x, %d): %d, %v", s, width, n, ok)
			}
		}
	}
}

func TestUReadU(t *testing.T) {
	for width := 1; width <= 8; width++ {
		for _, n := range numbers() {
			low := n & (math.MaxUint64 >> (64 - 8*width))
			s := num.U(n, width)
			if len(s) != width {
				t.Fatalf("U(%d, %d): %x", n, width, s)
			}
			for _, tail := range tails {
				if got, ok := num.ReadU(s+tail, width); got != low || !ok {
					t.Fatalf("ReadU(%x, %d): %d, %v, not %d", s+tail, width, got, ok, low)
				}
			}
			for i := range width {
				if got, ok := num.ReadU(s[:i], width); got != 0 || ok {
					t.Fatalf("ReadU(%x, %d): %d, %v", s[:i], width, got, ok)
				}
			}
		}
	}
	everyFrom("", 2, func(s string) {
		if n, ok := num.ReadU(s, len(s)); ok && num.U(n, len(s)) != s {
			t.Fatalf("ReadU(%x): %d, encoded as %x", s, n, num.U(n, len(s)))
		}
	})
}

func TestVExamples(t *testing.T) {
	for _, c := range []struct {
		ns   []uint64
		want string
	}{
		{nil, ""},
		{[]uint64{0}, "\x00"},
		{[]uint64{127}, "\x7f"},
		{[]uint64{128}, "\x81\x00"},
		{[]uint64{300}, "\x82\x2c"},
		{[]uint64{16383}, "\xff\x7f"},
		{[]uint64{16384}, "\x81\x80\x00"},
		{[]uint64{0, 127, 128, 16384}, "\x00\x7f\x81\x00\x81\x80\x00"},
		{[]uint64{0, 0}, "\x00\x00"},
		{[]uint64{128, 1}, "\x81\x00\x01"},
		{[]uint64{math.MaxUint64}, "\x81" + ffs + "\x7f"},
		{[]uint64{math.MaxUint64, 5}, "\x81" + ffs + "\x7f\x05"},
		{[]uint64{1 << 63}, "\x81\x80\x80\x80\x80\x80\x80\x80\x80\x00"},
		{[]uint64{1<<63 - 1}, ffs + "\x7f"},
	} {
		if got := num.V(c.ns...); got != c.want {
			t.Errorf("V(%v): %x, not %x", c.ns, got, c.want)
		}
	}
}

func TestReadVExamples(t *testing.T) {
	for _, c := range []struct {
		s    string
		want uint64
		size int
	}{
		{"\x00", 0, 1},
		{"\x00\x00", 0, 1},
		{"\x7f\x80", 127, 1},
		{"\x81\x00", 128, 2},
		{"\x81\x80\x00\x81", 16384, 3},
		{"\x81" + ffs + "\x7f", math.MaxUint64, 10},
		{"\x81" + ffs + "\x7f\xff", math.MaxUint64, 10},
		{"\x81\x80\x80\x80\x80\x80\x80\x80\x80\x00", 1 << 63, 10},
	} {
		if n, size, ok := num.ReadV(c.s); n != c.want || size != c.size || !ok {
			t.Errorf("ReadV(%x): %d, %d, %v, not %d, %d", c.s, n, size, ok, c.want, c.size)
		}
	}
}

func TestReadVWrong(t *testing.T) {
	for _, s := range notGroups {
		if n, size, ok := num.ReadV(s); n != 0 || size != 0 || ok {
			t.Errorf("ReadV(%x): %d, %d, %v", s, n, size, ok)
		}
	}
	for c := 0x82; c <= 0xff; c++ {
		s := string([]byte{byte(c)}) + "\x80\x80\x80\x80\x80\x80\x80\x80\x00"
		if n, size, ok := num.ReadV(s); n != 0 || size != 0 || ok {
			t.Errorf("ReadV(%x): %d, %d, %v", s, n, size, ok)
		}
	}
}

func TestSExamples(t *testing.T) {
	for _, c := range []struct {
		ss   []string
		want string
	}{
		{nil, ""},
		{[]string{""}, "\x00"},
		{[]string{"ab", ""}, "\x02ab\x00"},
		{[]string{"", "ab"}, "\x00\x02ab"},
		{[]string{"\x00"}, "\x01\x00"},
		{[]string{"a", "b", "c"}, "\x01a\x01b\x01c"},
		{[]string{strings.Repeat("x", 127)}, "\x7f" + strings.Repeat("x", 127)},
		{[]string{strings.Repeat("x", 128), "y"}, "\x81\x00" + strings.Repeat("x", 128) + "\x01y"},
	} {
		if got := num.S(c.ss...); got != c.want {
			t.Errorf("S(%q): %x, not %x", c.ss, got, c.want)
		}
	}
}

func TestReadSExamples(t *testing.T) {
	for _, c := range []struct {
		s, want string
		size    int
	}{
		{"\x02ab\xff", "ab", 3},
		{"\x02ab", "ab", 3},
		{"\x00", "", 1},
		{"\x00ab", "", 1},
		{"\x01\x80", "\x80", 2},
		{"\x81\x00" + strings.Repeat("x", 130), strings.Repeat("x", 128), 130},
	} {
		if text, size, ok := num.ReadS(c.s); text != c.want || size != c.size || !ok {
			t.Errorf("ReadS(%x): %q, %d, %v, not %q, %d", c.s, text, size, ok, c.want, c.size)
		}
	}
}

func TestReadSWrong(t *testing.T) {
	wrong := []string{
		"\x01", "\x02a", "\x7f", "\x81\x00", "\x81\x00" + strings.Repeat("x", 127), // a row that is cut off
		"\x80\x02ab", // a leading zero digit of the length
		// lengths that wrap round, added to the length's own size or as an int
		"\x81" + ffs + "\x7fabc", "\x81" + ffs + "\x75abc", "\x81" + ffs + "\x76abc", "\x81" + ffs + "\x77abc",
		ffs + "\x7fabc", "\x81\x80\x80\x80\x80\x80\x80\x80\x80\x00abc", "\x81\x80\x80\x80\x80\x80\x80\x80\x80\x03abc",
		"\x88\x80\x80\x80\x00abc", "\x90\x80\x80\x80\x00abc", "\x90\x80\x80\x80\x03abc",
	}
	for _, s := range append(wrong, notGroups...) {
		if text, size, ok := num.ReadS(s); text != "" || size != 0 || ok {
			t.Errorf("ReadS(%x): %q, %d, %v", s, text, size, ok)
		}
	}
}

func TestOneRowOfEachNumber(t *testing.T) {
	all := map[string]uint64{}
	for _, n := range numbers() {
		s := num.V(n)
		if other, had := all[s]; had {
			t.Fatalf("V(%d) and V(%d): %x", n, other, s)
		}
		all[s] = n
		for _, tail := range tails {
			if got, size, ok := num.ReadV(s + tail); got != n || size != len(s) || !ok {
				t.Fatalf("ReadV(%x): %d, %d, %v, not %d", s+tail, got, size, ok, n)
			}
		}
		for i := range len(s) {
			if got, size, ok := num.ReadV(s[:i]); got != 0 || size != 0 || ok {
				t.Fatalf("ReadV(%x): %d, %d, %v", s[:i], got, size, ok)
			}
		}
	}
	for s := range all {
		for i := 1; i < len(s); i++ {
			if n, is := all[s[:i]]; is {
				t.Fatalf("V(%d) is a proper prefix of %x", n, s)
			}
		}
	}
}

func TestOneRowOfEachString(t *testing.T) {
	all := map[string]string{}
	for _, text := range texts() {
		s := num.S(text)
		if other, had := all[s]; had {
			t.Fatalf("S(%x) and S(%x): %x", text, other, s)
		}
		all[s] = text
		for _, tail := range tails {
			if got, size, ok := num.ReadS(s + tail); got != text || size != len(s) || !ok {
				t.Fatalf("ReadS(%x): %x, %d, %v, not %x", s+tail, got, size, ok, text)
			}
		}
		for i := range len(s) {
			if got, size, ok := num.ReadS(s[:i]); got != "" || size != 0 || ok {
				t.Fatalf("ReadS(%x): %x, %d, %v", s[:i], got, size, ok)
			}
		}
	}
	for s := range all {
		for i := 1; i < len(s); i++ {
			if text, is := all[s[:i]]; is {
				t.Fatalf("S(%x) is a proper prefix of %x", text, s)
			}
		}
	}
}

func TestDecodedIsEncodedAsItWas(t *testing.T) {
	groups, rows := 0, 0
	everyFrom("", 3, func(s string) {
		if n, size, ok := num.ReadV(s); ok {
			groups++
			if size < 1 || size > len(s) || num.V(n) != s[:size] {
				t.Fatalf("ReadV(%x): %d, %d, encoded as %x", s, n, size, num.V(n))
			}
		} else if n != 0 || size != 0 {
			t.Fatalf("ReadV(%x): %d, %d, %v", s, n, size, ok)
		}
		if text, size, ok := num.ReadS(s); ok {
			rows++
			if size < 1 || size > len(s) || num.S(text) != s[:size] {
				t.Fatalf("ReadS(%x): %x, %d, encoded as %x", s, text, size, num.S(text))
			}
		} else if text != "" || size != 0 {
			t.Fatalf("ReadS(%x): %x, %d, %v", s, text, size, ok)
		}
	})
	// Of one byte 128 strings begin with groups; of two bytes 127 * 128 more; of three 127 * 128 * 128 more.
	if want := 128 + (128*256 + 127*128) + (128*256*256 + 127*128*256 + 127*128*128); groups != want {
		t.Errorf("%d strings begin with groups, not %d", groups, want)
	}
	// A row of at most three bytes begins with the length 0, 1 or 2.
	if want := 1 + 2*256 + 3*256*256; rows != want {
		t.Errorf("%d strings begin with rows, not %d", rows, want)
	}
}

func TestManyAreTakenApartAgain(t *testing.T) {
	ns := numbers()
	s := num.V(ns...)
	for _, n := range ns {
		got, size, ok := num.ReadV(s)
		if got != n || !ok {
			t.Fatalf("%d, %v, not %d", got, ok, n)
		}
		s = s[size:]
	}
	ss := texts()
	rows := num.S(ss...)
	for _, text := range ss {
		got, size, ok := num.ReadS(rows)
		if got != text || !ok {
			t.Fatalf("%x, %v, not %x", got, ok, text)
		}
		rows = rows[size:]
	}
	if s != "" || rows != "" {
		t.Errorf("left over: %x, %x", s, rows)
	}
}

func TestArgumentsStayAsTheyAre(t *testing.T) {
	ns, ss := numbers(), texts()
	num.V(ns[:len(ns)/2]...)
	num.S(ss[:len(ss)/2]...)
	if !slices.Equal(ns, numbers()) || !slices.Equal(ss, texts()) {
		t.Errorf("arguments were changed")
	}
}

func TestReadSSharesNoMemory(t *testing.T) {
	s := num.S(strings.Repeat("x", 200)) + "tail"
	text, _, ok := num.ReadS(s)
	if !ok {
		t.Fatal("no row")
	}
	from := uintptr(unsafe.Pointer(unsafe.StringData(s)))
	at := uintptr(unsafe.Pointer(unsafe.StringData(text)))
	if at >= from && at < from+uintptr(len(s)) {
		t.Errorf("the string is a piece of the argument")
	}
}
