package stable

import (
	"math"
	"strconv"
	"strings"

	"wapentake/api"
	"wapentake/disk"
	"wapentake/num"
	"wapentake/row"
	"wapentake/sum"
)

// The name of a snapshot's file is snapPrefix, and behind it the index, of leastDigits digits or more.
const (
	snapPrefix  = "snap."
	leastDigits = 8
)

func snapName(index uint64) string {
	digits := strconv.FormatUint(index, 10)
	zeros := max(leastDigits-len(digits), 0)
	return snapPrefix + strings.Repeat("0", zeros) + digits
}

func isSnapName(name string) bool {
	index, err := strconv.ParseUint(strings.TrimPrefix(name, snapPrefix), 10, 64)
	// Of all that would be read as that index, one is its name.
	return err == nil && snapName(index) == name
}

// writeSnap writes the file of a snapshot.
func writeSnap(d *disk.Disk, t *sum.Table, snap api.Snap) api.Errno {
	name := snapName(snap.Index)
	// A file of that name is not the store's: rows behind its own would not be read.
	if e := remove(d, name); e != api.OK {
		return e
	}
	if e := d.Append(name, row.Write(t, num.V(snap.Index, snap.Term, uint64(snap.Members)))); e != api.OK {
		return e
	}
	for _, section := range snap.Sections {
		if e := d.Append(name, row.Write(t, section)); e != api.OK {
			return e
		}
	}
	return d.Sync(name)
}

// readSnap returns the snapshot at this index; the one at 0 is empty, and has no file.
func readSnap(d *disk.Disk, t *sum.Table, index uint64) (api.Snap, bool) {
	if index == 0 {
		return api.Snap{}, true
	}
	contents, e := d.Read(snapName(index))
	if e != api.OK {
		return api.Snap{}, false
	}
	head, size, ok := row.Read(t, contents)
	if !ok {
		return api.Snap{}, false
	}
	snap, ok := readHead(head)
	if !ok || snap.Index != index {
		return api.Snap{}, false
	}
	for i := range snap.Sections {
		contents = contents[size:]
		snap.Sections[i], size, ok = row.Read(t, contents)
		if !ok {
			return api.Snap{}, false
		}
	}
	return snap, true
}

// readHead returns a snapshot without sections, of the groups of its numbers.
func readHead(text string) (api.Snap, bool) {
	var numbers [3]uint64
	for i := range numbers {
		n, size, ok := num.ReadV(text)
		if !ok {
			return api.Snap{}, false
		}
		numbers[i] = n
		text = text[size:]
	}
	if text != "" || numbers[2] > math.MaxUint8 {
		return api.Snap{}, false
	}
	return api.Snap{Index: numbers[0], Term: numbers[1], Members: uint8(numbers[2])}, true
}
