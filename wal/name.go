package wal

import (
	"slices"
	"strconv"
	"strings"

	"wapentake/disk"
)

// A segment's name is segName, and behind it the number, of leastDigits digits or more.
const (
	segName     = "seg."
	leastDigits = 8
)

// Name returns the name of the segment n.
func Name(n uint64) string {
	digits := strconv.FormatUint(n, 10)
	zeros := max(leastDigits-len(digits), 0)
	return segName + strings.Repeat("0", zeros) + digits
}

// Number returns the number of the segment that has this name.
func Number(name string) (uint64, bool) {
	n, err := strconv.ParseUint(strings.TrimPrefix(name, segName), 10, 64)
	// Of all that would be read as n, one is its name.
	if err != nil || Name(n) != name {
		return 0, false
	}
	return n, true
}

// Segments returns the numbers of all segments on the disk, in ascending order.
func Segments(d *disk.Disk) []uint64 {
	var numbers []uint64
	for _, name := range d.List() {
		if n, ok := Number(name); ok {
			numbers = append(numbers, n)
		}
	}
	// Names ascend in another order: that of more digits may come first.
	slices.Sort(numbers)
	return numbers
}
