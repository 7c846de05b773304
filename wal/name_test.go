package wal_test

import (
	"math"
	"math/big"
	"math/rand"
	"regexp"
	"slices"
	"strings"
	"testing"

	"wapentake/api"
	"wapentake/disk"
	"wapentake/wal"
)

var names = []struct {
	n    uint64
	name string
}{
	{0, "seg.00000000"}, {1, "seg.00000001"}, {7, "seg.00000007"}, {10, "seg.00000010"}, {1234567, "seg.01234567"}, {9999999, "seg.09999999"},
	{10000000, "seg.10000000"}, {99999999, "seg.99999999"}, {100000000, "seg.100000000"}, {1 << 32, "seg.4294967296"}, {1 << 40, "seg.1099511627776"},
	{9999999999999999999, "seg.9999999999999999999"}, {10000000000000000000, "seg.10000000000000000000"}, {math.MaxUint64, "seg.18446744073709551615"},
}

// noNames are names that no segment has.
var noNames = []string{
	"", "s", "seg", "seg.", "seg.7", "seg.07", "seg.0000007", "seg.1234567", "seg.0000000", "seg.-0000007", "seg.+0000007", "seg.+00000007", "seg.-00000007",
	"seg.000000007", "seg.000000000", "seg.012345678", "seg.0099999999", "seg.018446744073709551615", "seg.00000000000000000000007",
	"seg.18446744073709551616", "seg.18446744073709551622", "seg.18446744073709551625", "seg.20000000000000000000", "seg.99999999999999999999", "seg.100000000000000000000", "seg.36893488147419103239", "seg.340282366920938463463374607431768211463",
	"00000007", "7", "seg00000007", "seg,00000007", "seg..0000007", "seg..00000007", "Seg.00000007", "SEG.00000007", "snap.00000007", "eg.00000007", "xseg.00000007", "seg.seg.00000007",
	" seg.00000007", "seg. 0000007", "seg.00000007 ", "seg.00000007\x00", "seg.00000007\n", "\x00seg.00000007", "seg.0000000a", "seg.0x000007", "seg.0000_007", "seg.1000_0000", "seg.0000007.", "seg.1000000.0", "seg.1e000007",
	"seg.0000000\xd9\xa7", "seg.0000000\xef\xbc\x97", "seg.\xff\xff\xff\xff\xff\xff\xff\xff", "seg.\x00\x00\x00\x00\x00\x00\x00\x07", "seg.0000000/", "seg.0000000:",
}

func TestNames(t *testing.T) {
	for _, x := range names {
		if got := wal.Name(x.n); got != x.name {
			t.Errorf("Name(%d): %q, not %q", x.n, got, x.name)
		}
		if n, ok := wal.Number(x.name); n != x.n || !ok {
			t.Errorf("Number(%q): %d, %v, not %d", x.name, n, ok, x.n)
		}
	}
}

func TestNoNames(t *testing.T) {
	for _, name := range append(noNames, "seg."+strings.Repeat("0", 1<<16), "seg."+strings.Repeat("9", 1<<16), strings.Repeat("seg.00000007", 1<<12)) {
		if n, ok := wal.Number(name); n != 0 || ok {
			t.Errorf("Number(%.50q): %d, %v", name, n, ok)
		}
	}
}

var form = regexp.MustCompile(`^seg\.([0-9]{8}|[1-9][0-9]{8,})$`)

// isNumbered demands that Number tells whether a name is one, and whose, as the pattern does.
func isNumbered(t *testing.T, name string) {
	t.Helper()
	want := new(big.Int)
	ok := form.MatchString(name) && !strings.HasSuffix(name, "\n")
	if ok {
		want.SetString(name[len("seg."):], 10)
		ok = want.IsUint64()
	}
	n, got := wal.Number(name)
	if got != ok || got && n != want.Uint64() || !got && n != 0 {
		t.Fatalf("Number(%q): %d, %v, not %s, %v", name, n, got, want, ok)
	}
	if got && wal.Name(n) != name {
		t.Fatalf("%q is the name of %d, whose name is %q", name, n, wal.Name(n))
	}
}

func TestEveryNumberHasOneName(t *testing.T) {
	seen := map[string]bool{}
	try := func(n uint64) {
		name := wal.Name(n)
		if got, ok := wal.Number(name); got != n || !ok {
			t.Fatalf("%q, the name of %d, is that of %d, %v", name, n, got, ok)
		}
		isNumbered(t, name)
		seen[name] = true
	}
	for n := range uint64(20000) {
		try(n)
	}
	if len(seen) != 20000 {
		t.Fatalf("%d names of 20000 numbers", len(seen))
	}
	for power := uint64(10); power < math.MaxUint64/10; power *= 10 {
		try(power - 1)
		try(power)
		try(power*9 + 1)
	}
	random := rand.New(rand.NewSource(1))
	for range 20000 {
		try(random.Uint64() >> random.Intn(64))
	}
}

// TestNamesWithAnotherByte: every byte at every place, in its stead or put in, and names cut off.
func TestNamesWithAnotherByte(t *testing.T) {
	for _, x := range names {
		for at := range len(x.name) + 1 {
			isNumbered(t, x.name[:at])
			isNumbered(t, x.name[at:])
			for b := range 256 {
				isNumbered(t, x.name[:at]+octet(uint8(b))+x.name[at:])
				if at < len(x.name) {
					isNumbered(t, x.name[:at]+octet(uint8(b))+x.name[at+1:])
				}
			}
		}
	}
	random := rand.New(rand.NewSource(2))
	for range 50000 {
		isNumbered(t, bent(random, names[random.Intn(len(names))].name))
	}
}

// fullDisk returns a disk with segments and other files, and the numbers of the segments.
func fullDisk(t *testing.T) (*disk.Disk, []uint64) {
	t.Helper()
	d := disk.New()
	// In an order that is neither that of names nor that of numbers: the name of 100000000 comes ahead of that of 99999999.
	for _, at := range []int{7, 0, 13, 8, 12, 3, 1, 10, 2, 11, 5, 9, 4, 6} {
		are(t, api.OK, d.Append(names[at].name, "x"))
	}
	for _, name := range noNames {
		if len(name) >= 1 && len(name) <= 32 {
			are(t, api.OK, d.Append(name, "x"))
		}
	}
	var all []uint64
	for _, x := range names {
		all = append(all, x.n)
	}
	return d, all
}

// areSegments demands that these are the numbers of the disk's segments, in this order.
func areSegments(t *testing.T, d *disk.Disk, want ...uint64) {
	t.Helper()
	if got := wal.Segments(d); !slices.Equal(got, want) {
		t.Fatalf("segments %d, not %d", got, want)
	}
}

func TestSegmentsOfADisk(t *testing.T) {
	areSegments(t, disk.New())
	d, all := fullDisk(t)
	areSegments(t, d, all...)
	before := contentsOf(d)
	// Whether the power is on or not, and whatever the files have.
	d.Crash(api.Crash{})
	areSegments(t, d, all...)
	d.Start()
	areSegments(t, d, all...)
	if after := contentsOf(d); len(after) != len(before) {
		t.Fatalf("%d files, not %d", len(after), len(before))
	}
	for k, n := range all {
		are(t, api.OK, d.Delete(wal.Name(n)))
		areSegments(t, d, all[k+1:]...)
	}
	are(t, api.OK, d.Rename("seg.7", "seg.00000009"))
	areSegments(t, d, 9)
	are(t, api.OK, d.Rename("seg.00000009", "seg.9"))
	areSegments(t, d)
}

func TestSegmentsDoesNotBurnTheFuse(t *testing.T) {
	d, all := fullDisk(t)
	d.Fuse(1)
	for range 3 {
		areSegments(t, d, all...)
	}
	if d.Fused() != 1 || d.Down() {
		t.Fatalf("a fuse of %d, down %v", d.Fused(), d.Down())
	}
}

func TestSegmentsThatAreBegun(t *testing.T) {
	d := disk.New()
	for _, n := range []uint64{100000001, 99999999, 3, math.MaxUint64, 0} {
		begin(t, d, n, 0)
	}
	areSegments(t, d, 0, 3, 99999999, 100000001, math.MaxUint64)
}

func TestSegmentsOfNoDisk(t *testing.T) {
	areSegments(t, nil)
	areSegments(t, new(disk.Disk))
}

func TestSegmentsAreTheCallers(t *testing.T) {
	d, all := fullDisk(t)
	list, other := wal.Segments(d), wal.Segments(d)
	clear(list[:cap(list)])
	if !slices.Equal(other, all) {
		t.Fatalf("another list changed: %d", other)
	}
	areSegments(t, d, all...)
}
