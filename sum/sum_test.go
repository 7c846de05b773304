package sum_test

import (
	"hash/crc32"
	"math/bits"
	"slices"
	"strings"
	"testing"

	"wapentake/sum"
)

// window is how many adjacent bytes may differ so that the checksums are promised to differ.
const window = 4

// mixed returns n bytes without a pattern, the same ones for the same seed.
func mixed(n int, seed uint32) string {
	b := make([]byte, n)
	for i := range b {
		seed = seed*1664525 + 1013904223
		b[i] = byte(seed >> 24)
	}
	return string(b)
}

// texts are strings of awkward bytes and of lengths around the edges of words and blocks.
func texts() []string {
	ss := []string{"", "a", "\x00", "\x80", "\xff", "123456789", "\xe4\xb8", "\xf0\x9f\x98", "\x00\xff\x00"}
	for _, n := range []int{2, 3, 4, 5, 7, 8, 9, 15, 16, 17, 31, 32, 33, 64, 255, 256, 257, 1000} {
		ss = append(ss, strings.Repeat("\x00", n), strings.Repeat("\xff", n), strings.Repeat("x", n), mixed(n, uint32(n)))
	}
	return ss
}

// changed returns s with the bits of turn flipped in the bytes from at on, of which the lowest eight belong to the first.
func changed(s string, at int, turn uint32) string {
	b := []byte(s)
	for i := at; turn != 0; i++ {
		b[i] ^= byte(turn)
		turn >>= 8
	}
	return string(b)
}

// byHand returns a byte's table entry as the chapter defines it.
func byHand(b int) uint32 {
	n := uint32(b)
	for range 8 {
		if n%2 == 1 {
			n = n/2 ^ 0x82f63b78
		} else {
			n /= 2
		}
	}
	return n
}

func TestMakeExamples(t *testing.T) {
	table := sum.Make()
	for _, c := range []struct {
		at   int
		want uint32
	}{{0, 0}, {1, 0xf26b8303}, {2, 0xe13b70f7}, {128, 0x82f63b78}, {254, 0x5f16d052}, {255, 0xad7d5351}} {
		if table[c.at] != c.want {
			t.Errorf("the table at %d: %#x, not %#x", c.at, table[c.at], c.want)
		}
	}
}

func TestTableByteByByte(t *testing.T) {
	table, library := sum.Make(), crc32.MakeTable(crc32.Castagnoli)
	for b := range 256 {
		if want := byHand(b); table[b] != want || library[b] != want {
			t.Errorf("the table at %d: %#x, not %#x (the library's: %#x)", b, table[b], want, library[b])
		}
	}
}

func TestTableEntriesAllDiffer(t *testing.T) {
	table := sum.Make()
	at := map[uint32]int{}
	for b, n := range table {
		if other, had := at[n]; had {
			t.Errorf("the table at %d and at %d: %#x", other, b, n)
		}
		at[n] = b
	}
}

func TestTableEntryOfXor(t *testing.T) {
	table := sum.Make()
	for a := range 256 {
		for b := range 256 {
			if got, want := table[a^b], table[a]^table[b]; got != want {
				t.Fatalf("the table at %d xor %d: %#x, not %#x", a, b, got, want)
			}
		}
	}
}

func TestMakeIsNewEachTime(t *testing.T) {
	one := sum.Make()
	clear(one[:])
	if two := sum.Make(); two == one || two.Of("123456789") != 0xe3069283 {
		t.Errorf("a table changed another one")
	}
}

func TestOfExamples(t *testing.T) {
	table := sum.Make()
	for _, c := range []struct {
		parts []string
		want  uint32
	}{
		{[]string{"123456789"}, 0xe3069283},
		{[]string{"1234", "", "56789"}, 0xe3069283},
		{[]string{"", "123456789", ""}, 0xe3069283},
		{[]string{"1", "2", "3", "4", "5", "6", "7", "8", "9"}, 0xe3069283},
		{nil, 0},
		{[]string{}, 0},
		{[]string{""}, 0},
		{[]string{"", "", ""}, 0},
		{[]string{"a"}, 0xc1d04330},
		// the examples of RFC 3720, B.4
		{[]string{strings.Repeat("\x00", 32)}, 0x8a9136aa},
		{[]string{strings.Repeat("\xff", 32)}, 0x62a8ab43},
		{[]string{"\x00\x01\x02\x03\x04\x05\x06\x07\x08\x09\x0a\x0b\x0c\x0d\x0e\x0f", "\x10\x11\x12\x13\x14\x15\x16\x17\x18\x19\x1a\x1b\x1c\x1d\x1e\x1f"}, 0x46dd794e},
	} {
		if got := table.Of(c.parts...); got != c.want {
			t.Errorf("Of(%q): %#x, not %#x", c.parts, got, c.want)
		}
	}
	if got := table.Of(); got != 0 {
		t.Errorf("Of(): %#x", got)
	}
}

func TestOfIsTheLibrarys(t *testing.T) {
	table, library := sum.Make(), crc32.MakeTable(crc32.Castagnoli)
	for _, s := range append(texts(), mixed(1<<20, 7)) {
		if got, want := table.Of(s), crc32.Checksum([]byte(s), library); got != want {
			t.Errorf("Of %d bytes: %#x, not %#x", len(s), got, want)
		}
	}
	for a := range 256 {
		for b := range 256 {
			s := string([]byte{byte(a), byte(b)})
			if got, want := table.Of(s), crc32.Checksum([]byte(s), library); got != want {
				t.Fatalf("Of(%x): %#x, not %#x", s, got, want)
			}
		}
	}
}

func TestPartsAreConcatenated(t *testing.T) {
	table := sum.Make()
	for _, s := range texts() {
		want := table.Of(s)
		for i := range len(s) + 1 {
			if got := table.Of(s[:i], s[i:]); got != want {
				t.Fatalf("%x in parts at %d: %#x, not %#x", s, i, got, want)
			}
			if got := table.Of("", s[:i/2], s[i/2:i], "", s[i:], ""); got != want {
				t.Fatalf("%x in six parts at %d: %#x, not %#x", s, i, got, want)
			}
		}
	}
	if table.Of("ab", "c") == table.Of("c", "ab") {
		t.Errorf("the order of the parts does not matter")
	}
}

func TestManyParts(t *testing.T) {
	table := sum.Make()
	s := mixed(5000, 3)
	if got, want := table.Of(strings.Split(s, "")...), table.Of(s); got != want {
		t.Errorf("of many parts: %#x, not %#x", got, want)
	}
}

func TestNilTable(t *testing.T) {
	var none *sum.Table
	if none.Of() != 0 || none.Of("") != 0 || none.Of("a", "b") != 0 {
		t.Errorf("a nil table gives a checksum")
	}
	for _, s := range texts() {
		if got := none.Of(s); got != 0 {
			t.Errorf("Of(%x) on a nil table: %#x", s, got)
		}
	}
}

// otherTables are tables that Make does not return.
func otherTables() []sum.Table {
	var zero, ones, same, ieee, one sum.Table
	for b := range 256 {
		ones[b] = 1<<32 - 1
		same[b] = uint32(b)
		ieee[b] = crc32.IEEETable[b]
		one[b] = byHand(b)
	}
	one[77]++
	return []sum.Table{zero, ones, same, ieee, one}
}

func TestOtherTables(t *testing.T) {
	for i, table := range otherTables() {
		before := table
		for _, s := range append(texts(), mixed(1<<16, 9)) {
			if table.Of(s) != table.Of(s) {
				t.Errorf("table %d: two results for %x", i, s)
			}
			table.Of("", s, s)
		}
		table.Of()
		if table != before {
			t.Errorf("table %d was changed", i)
		}
	}
}

func TestArgumentsStayAsTheyAre(t *testing.T) {
	table, parts := sum.Make(), texts()
	want := table.Of(parts[:10]...)
	for range 3 {
		if got := table.Of(parts[:10]...); got != want {
			t.Errorf("again: %#x, not %#x", got, want)
		}
	}
	if !slices.Equal(parts, texts()) || table != sum.Make() {
		t.Errorf("arguments were changed")
	}
}

func TestShortTextsAllDiffer(t *testing.T) {
	table := sum.Make()
	for _, head := range []string{"", "\x00", "ab", mixed(40, 1)} {
		seen := map[uint32]int{}
		for n := range 1 << 16 {
			got := table.Of(head, string([]byte{byte(n), byte(n >> 8)}), "tail")
			if other, had := seen[got]; had {
				t.Fatalf("behind %x: %04x and %04x have the same checksum", head, other, n)
			}
			seen[got] = n
		}
	}
}

func TestOneChangedByteIsTold(t *testing.T) {
	table := sum.Make()
	for _, s := range texts() {
		want := table.Of(s)
		for at := range min(len(s), 40) {
			for turn := uint32(1); turn < 256; turn++ {
				if table.Of(changed(s, at, turn)) == want {
					t.Fatalf("%x: no other checksum with the byte at %d turned by %#x", s, at, turn)
				}
			}
		}
	}
}

func TestFourChangedBytesAreTold(t *testing.T) {
	table := sum.Make()
	seed := uint32(1)
	for _, s := range texts() {
		want := table.Of(s)
		for at := 0; at+window <= len(s) && at < 40; at++ {
			turns := []uint32{0xffffffff, 0x80000001, 0x01000001, 0xff0000ff, 0x82f63b78, 0x1edc6f41, 0x05ec76f1}
			for range 50 {
				seed = seed*1664525 + 1013904223
				turns = append(turns, seed|1)
			}
			for _, turn := range turns {
				if table.Of(changed(s, at, turn)) == want {
					t.Fatalf("%x: no other checksum with the bytes from %d on turned by %#x", s, at, turn)
				}
			}
		}
	}
}

// A checksum turns by the xor of what each changed bit turns it by, so all 2^32 - 1 changes of four bytes are told if and only if no bit's turn is a xor of the others'.
func TestEveryChangeOfFourBytesIsTold(t *testing.T) {
	table := sum.Make()
	for _, s := range []string{"\x00\x00\x00\x00", "\xff\xff\xff\xff", mixed(5, 2), mixed(64, 4), mixed(300, 6)} {
		plain := table.Of(s)
		for at := 0; at+window <= len(s); at++ {
			var turns [32]uint32
			for bit := range turns {
				turns[bit] = table.Of(changed(s, at, 1<<bit)) ^ plain
			}
			for _, turn := range []uint32{3, 0x80000001, 0xffffffff, 0x12345678, 0xdeadbeef} {
				if got, want := table.Of(changed(s, at, turn))^plain, xorOf(turns, turn); got != want {
					t.Fatalf("%x from %d on, turned by %#x: the checksum turns by %#x, not %#x", s, at, turn, got, want)
				}
			}
			if rank(turns) != len(turns) {
				t.Fatalf("%x: a change from %d on has the same checksum", s, at)
			}
		}
	}
}

// xorOf returns the xor of those turns whose bit is in which.
func xorOf(turns [32]uint32, which uint32) (n uint32) {
	for bit, turn := range turns {
		if which>>bit&1 == 1 {
			n ^= turn
		}
	}
	return n
}

// rank returns how many of the turns are no xor of those before them.
func rank(turns [32]uint32) (n int) {
	var byTop [33]uint32
	for _, turn := range turns {
		for turn != 0 && byTop[bits.Len32(turn)] != 0 {
			turn ^= byTop[bits.Len32(turn)]
		}
		if turn != 0 {
			byTop[bits.Len32(turn)] = turn
			n++
		}
	}
	return n
}
