package row_test

import (
	"hash/crc32"
	"math"
	"strings"
	"testing"
	"unsafe"

	"wapentake/row"
	"wapentake/sum"
)

var table = sum.Make()

func octet(n uint8) string { return string([]byte{n}) }

// digits are the groups of n, as chapter 1 defines them.
func digits(n uint64) string {
	d := octet(uint8(n % 128))
	for n /= 128; n > 0; n /= 128 {
		d = octet(uint8(n%128+128)) + d
	}
	return d
}

// rowOf returns a row with any checksum and any length.
func rowOf(length uint64, check uint32, text string) string {
	return digits(length) + octet(uint8(check>>24)) + octet(uint8(check>>16)) + octet(uint8(check>>8)) + octet(uint8(check)) + text
}

func checksum(text string) uint32 {
	return crc32.Checksum([]byte(text), crc32.MakeTable(crc32.Castagnoli))
}

// texts are of lengths at the edges of counts of digits.
func texts() []string {
	all := []string{"", "\x00", "\xff", "123456789"}
	for _, n := range []int{2, 127, 128, 129, 16383, 16384, 1 << 18} {
		all = append(all, strings.Repeat("x", n), strings.Repeat("\x80", n))
	}
	return all
}

// isNoRow demands that s does not begin with a row.
func isNoRow(t *testing.T, s string) {
	t.Helper()
	if text, size, ok := row.Read(&table, s); text != "" || size != 0 || ok {
		t.Fatalf("%.100x read as %.100q, %d, %v", s, text, size, ok)
	}
}

func TestRows(t *testing.T) {
	for _, text := range texts() {
		want := rowOf(uint64(len(text)), checksum(text), text)
		if got := row.Write(&table, text); got != want {
			t.Fatalf("%.50q written as %.100x, not %.100x", text, got, want)
		}
		for _, behind := range []string{"", "\x00", "\xff\xff", want} {
			if got, size, ok := row.Read(&table, want+behind); got != text || size != len(want) || !ok {
				t.Fatalf("%.100x read as %.50q, %d, %v", want+behind, got, size, ok)
			}
		}
	}
}

func TestAPartOfARowIsNone(t *testing.T) {
	for _, text := range texts()[:10] {
		whole := rowOf(uint64(len(text)), checksum(text), text)
		for size := range whole {
			isNoRow(t, whole[:size])
		}
	}
}

func TestWrongRows(t *testing.T) {
	for _, text := range []string{"", "x", strings.Repeat("x", 130)} {
		n, check := uint64(len(text)), checksum(text)
		for bit := range 32 {
			isNoRow(t, rowOf(n, check^1<<bit, text))
		}
		for _, length := range []uint64{n + 1, n + 5, 1 << 31, 1 << 40, 1 << 62, 1<<63 - 1, 1 << 63, math.MaxUint64 - 4, math.MaxUint64} {
			isNoRow(t, rowOf(length, check, text))
		}
		isNoRow(t, "\x80"+rowOf(n, check, text))
	}
	isNoRow(t, strings.Repeat("\xff", 20))
}

// TestOtherTables: nothing is promised about them, but that every call ends.
func TestOtherTables(t *testing.T) {
	for _, other := range []*sum.Table{nil, {}, {1: 1, 255: math.MaxUint32}} {
		if text, _, ok := row.Read(other, row.Write(other, "text")); text != "text" || !ok {
			t.Errorf("read as %q, %v", text, ok)
		}
	}
}

func TestATextSharesNoMemory(t *testing.T) {
	s := row.Write(&table, "text")
	text, _, _ := row.Read(&table, s)
	from := uintptr(unsafe.Pointer(unsafe.StringData(s)))
	if at := uintptr(unsafe.Pointer(unsafe.StringData(text))); at >= from && at < from+uintptr(len(s)) {
		t.Errorf("it does")
	}
}
