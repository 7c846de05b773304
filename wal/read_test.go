package wal_test

import (
	"maps"
	"math"
	"math/rand"
	"slices"
	"strings"
	"testing"

	"wapentake/api"
	"wapentake/disk"
	"wapentake/sum"
	"wapentake/wal"
)

func TestErrorsOfRead(t *testing.T) {
	d := disk.New()
	isNotRead(t, api.ErrNone, d, &table, 1)
	begin(t, d, 1, 4, s)
	isNotRead(t, api.ErrNone, d, &table, 0)
	isNotRead(t, api.ErrNone, d, &table, math.MaxUint64)
	isNotRead(t, api.ErrNil, nil, &table, 1)
	isNotRead(t, api.ErrNil, nil, nil, 1)
	isNotRead(t, api.ErrNil, d, nil, 1)
	isNotRead(t, api.ErrNil, d, nil, 2)
	d.Crash(api.Crash{})
	isNotRead(t, api.ErrDown, d, &table, 1)
	isNotRead(t, api.ErrDown, d, &table, 2)
	isNotRead(t, api.ErrNil, d, nil, 1)
	isNotRead(t, api.ErrNil, nil, &table, 1)
	d.Start()
	isRead(t, d, 1, 4, []api.Rec{s}, true)
	are(t, api.OK, d.Delete(wal.Name(1)))
	isNotRead(t, api.ErrNone, d, &table, 1)
	// Names that are nearly the segment's.
	are(t, api.OK, d.Append("seg.1", headByHand(0, 0)), d.Append("seg.000000001", headByHand(0, 0)))
	isNotRead(t, api.ErrNone, d, &table, 1)
	isNotRead(t, api.ErrDown, new(disk.Disk), &table, 1)
	isNotRead(t, api.ErrNil, new(disk.Disk), nil, 1)
}

func TestReadChangesNothing(t *testing.T) {
	d := disk.New()
	l := begin(t, d, 1, 4, s)
	are(t, api.OK, d.Append(wal.Name(2), "x"))
	before := contentsOf(d)
	d.Fuse(1)
	for range 3 {
		isRead(t, d, 1, 4, []api.Rec{s}, true)
		isRead(t, d, 2, 0, nil, false)
		isNotRead(t, api.ErrNone, d, &table, 3)
	}
	if d.Fused() != 1 || d.Down() || !maps.Equal(before, contentsOf(d)) {
		t.Fatalf("a fuse of %d, down %v, files %x", d.Fused(), d.Down(), contentsOf(d))
	}
	if all, synced := d.Records(wal.Name(2)); all != 1 || synced != 0 {
		t.Fatalf("%d records, %d of them synced", all, synced)
	}
	d.Fuse(0)
	are(t, api.OK, l.Add(s))
}

// TestWhatCounts: by the number of records that the head tells, and that are there.
func TestWhatCounts(t *testing.T) {
	for _, told := range append([]uint64{3, 4, 5, 6}, numbers...) {
		for there := range 7 {
			d := disk.New()
			are(t, api.OK, d.Append(wal.Name(1), headByHand(told, 77)+rows(states(there)...)))
			isRead(t, d, 1, 77, states(there), uint64(there) >= told)
		}
	}
}

// TestWhatEnds: rows that are none, or not of a record, end what is stored, whatever follows them.
func TestWhatEnds(t *testing.T) {
	text := textByHand(s)
	check := checksum(text)
	length := uint64(len(text))
	long := textByHand(data(1, strings.Repeat("x", 200)))
	ends := map[string]string{
		"a wrong checksum":                rowOf(length, check+1, text),
		"a checksum of nothing":           rowOf(length, 0, text),
		"a checksum the other way round":  rowOf(length, check>>24|check>>8&0xff00|check<<8&0xff0000|check<<24, text),
		"a checksum of the length too":    rowOf(length, checksum(digits(length)+text), text),
		"a checksum of another text":      rowOf(length, checksum("\x02\x05\x03"), text),
		"no bytes":                        rowByHand(""),
		"a zero":                          "\x00",
		"zeros":                           strings.Repeat("\x00", 40),
		"all ones":                        strings.Repeat("\xff", 40),
		"a length with a leading zero":    "\x80" + rowByHand(text),
		"a length beyond the end":         rowOf(1<<20, check, text),
		"the greatest length":             rowOf(math.MaxUint64, check, text),
		"nearly the greatest length":      rowOf(math.MaxUint64-3, check, text),
		"the greatest int":                rowOf(math.MaxInt64, check, text),
		"one above the greatest int":      rowOf(1<<63, check, text),
		"a length beyond all numbers":     "\x82" + ffs + "\x7f" + rowByHand(text)[1:],
		"a length one too small":          rowOf(length-1, check, text),
		"a length one too great":          rowOf(length+1, check, text),
		"a length of a byte, not groups":  "\xd0" + rowByHand(long)[2:],
		"a row of the kind 0":             rowByHand("\x00\x05\x02"),
		"a row of the kind 4":             rowByHand("\x04\x05\x02"),
		"a row of the kind 255":           rowByHand("\xff\x05\x02"),
		"a kind alone":                    rowByHand("\x02"),
		"an entry's kind alone":           rowByHand("\x03"),
		"a kind as groups":                rowByHand("\x80\x02\x05\x02"),
		"a state without a vote":          rowByHand("\x02\x05"),
		"a state with a byte behind":      rowByHand("\x02\x05\x02\x00"),
		"a state with a vote as groups":   rowByHand("\x02\x05\x81\x00"),
		"a term with a leading zero":      rowByHand("\x02\x80\x05\x02"),
		"a term without an end":           rowByHand("\x02\x85\x82"),
		"a term beyond all numbers":       rowByHand("\x02\x82" + ffs + "\x7f\x02"),
		"an entry with a byte behind":     rowByHand(textByHand(data(1, "x")) + "\x00"),
		"an entry that is cut short":      rowByHand(textByHand(data(1, "xy"))[:len(textByHand(data(1, "xy")))-1]),
		"an entry that is not valid":      rowByHand("\x03\x01\x00\x01"),
		"an entry without a term":         rowByHand("\x03\x01\x01\x00"),
		"an entry of the kind 6":          rowByHand("\x03\x06\x01\x01"),
		"an entry of the slot 4":          rowByHand("\x03\x03\x01\x01\x04\x00\x00\x00\x00\x00\x00\x00\x00\x00"),
		"an entry's encoding as a row":    rowByHand("\x03" + "\x03\x01\x02\x01"),
		"two texts in one row":            rowByHand(text + text),
		"a row in a row":                  rowByHand(rowByHand(text)),
		"a head":                          headByHand(0, 0),
		"the segment's head once more":    headByHand(1, 9),
		"a byte ahead of a row":           "\x01" + rowByHand(text),
		"a text without its row":          text,
		"a row without its checksum":      digits(length) + text,
		"a row with its checksum at last": digits(length) + text + rowByHand(text)[1:5],
	}
	first := state(8)
	head := headByHand(1, 9)
	for name, end := range ends {
		for _, after := range []string{rows(states(2)...), headByHand(0, 0) + rows(s), rows(states(40)...)} {
			for n := range 3 {
				there := slices.Concat([]api.Rec{first}, states(n))
				contents := head + rows(there...) + end + after
				d := disk.New()
				are(t, api.OK, d.Append(wal.Name(1), contents))
				snap, recs, counts, e := wal.Read(d, &table, 1)
				if snap != 9 || !slices.Equal(recs, there) || !counts || e != api.OK {
					t.Errorf("%s: a snapshot at %d, %v, counts %v, %d", name, snap, recs, counts, e)
				}
				// Ahead of the base's end, it does not count.
				d = disk.New()
				are(t, api.OK, d.Append(wal.Name(1), headByHand(uint64(len(there)+1), 9)+rows(there...)+end+after))
				isRead(t, d, 1, 9, there, false)
				readsAs(t, contents)
			}
		}
	}
}

// TestNoHead: what is no head, first in a file, leaves nothing that is stored.
func TestNoHead(t *testing.T) {
	head := "\x01\x01\x09"
	check := checksum(head)
	for name, begins := range map[string]string{
		"a record": rows(s), "an entry": rows(data(1, "x")), "a row of no bytes": rowByHand(""), "zeros": strings.Repeat("\x00", 20),
		"a head's kind alone": rowByHand("\x01"), "one number": rowByHand("\x01\x01"), "three numbers": rowByHand("\x01\x01\x09\x00"), "a byte behind": rowByHand(head + "\xff"),
		"the kind 0": rowByHand("\x00\x01\x09"), "the kind 2": rowByHand("\x02\x01\x09"), "the kind 4": rowByHand("\x04\x01\x09"), "the kind 129": rowByHand("\x81\x01\x09"),
		"a base with a leading zero": rowByHand("\x01\x80\x01\x09"), "a snapshot with a leading zero": rowByHand("\x01\x01\x80\x09"), "a number without an end": rowByHand("\x01\x01\x89"), "a base without an end": rowByHand("\x01\x81\x89"),
		"a base beyond all numbers": rowByHand("\x01\x82" + ffs + "\x7f\x09"), "a snapshot beyond all numbers": rowByHand("\x01\x01\x82" + ffs + "\x7f"),
		"a wrong checksum": rowOf(3, check+1, head), "a length one too great": rowOf(4, check, head), "a length one too small": rowOf(2, check, head), "the greatest length": rowOf(math.MaxUint64, check, head), "a byte ahead": "\x00" + rowByHand(head), "a text without its row": head,
		"a number of a width": rowByHand("\x01\x00\x00\x00\x01\x00\x00\x00\x09"),
	} {
		for _, after := range []string{"", rows(s, s), headByHand(0, 5) + rows(s), headByHand(1, 9) + rows(s)} {
			d := disk.New()
			are(t, api.OK, d.Append(wal.Name(1), begins+after))
			snap, recs, counts, e := wal.Read(d, &table, 1)
			if snap != 0 || len(recs) != 0 || counts || e != api.OK {
				t.Errorf("%s: a snapshot at %d, %v, counts %v, %d", name, snap, recs, counts, e)
			}
			readsAs(t, begins+after)
		}
	}
	isRead(t, empty(t), 1, 0, nil, false)
}

// TestEachBitOfARow: a bit that is changed, in any row, ends what is stored there, as the rows' checksums tell it.
func TestEachBitOfARow(t *testing.T) {
	recs := []api.Rec{s, data(1, "body"), state(300)}
	whole := segment(9, recs[:1], recs[1:]...)
	ends := []int{len(headByHand(1, 9))}
	for _, r := range recs {
		ends = append(ends, ends[len(ends)-1]+len(rows(r)))
	}
	for at := range whole {
		for bit := range 8 {
			contents := whole[:at] + octet(whole[at]^1<<bit) + whole[at+1:]
			d := disk.New()
			are(t, api.OK, d.Append(wal.Name(1), contents))
			row := slices.IndexFunc(ends, func(end int) bool { return at < end })
			if row == 0 {
				isRead(t, d, 1, 0, nil, false)
			} else {
				isRead(t, d, 1, 9, recs[:row-1], row > 1)
			}
			readsAs(t, contents)
		}
	}
}

// TestEachBeginning: of a segment that is cut off at any byte, the rows that are complete are stored.
func TestEachBeginning(t *testing.T) {
	recs := []api.Rec{s, data(1, strings.Repeat("b", 130)), data(2, rows(states(3)...)), state(math.MaxUint64)}
	whole := segment(9, recs[:2], recs[2:]...)
	for size := range len(whole) + 1 {
		snap, want, complete := uint64(0), 0, len(headByHand(2, 9))
		if size >= complete {
			snap = 9
			for want < len(recs) && size >= complete+len(rows(recs[want])) {
				complete += len(rows(recs[want]))
				want++
			}
		}
		d := empty(t)
		if size > 0 {
			d = disk.New()
			are(t, api.OK, d.Append(wal.Name(1), whole[:size]))
		}
		isRead(t, d, 1, snap, recs[:want], want >= 2)
	}
}

// TestRowsAreTheFilesNotTheDisksRecords: what is stored is told from the bytes, however they were appended.
func TestRowsAreTheFilesNotTheDisksRecords(t *testing.T) {
	recs := []api.Rec{s, data(1, "body"), state(300)}
	whole := segment(9, recs[:1], recs[1:]...)
	for size := 1; size <= len(whole); size++ {
		d := disk.New()
		for rest := whole; rest != ""; rest = rest[min(size, len(rest)):] {
			are(t, api.OK, d.Append(wal.Name(1), rest[:min(size, len(rest))]))
		}
		isRead(t, d, 1, 9, recs, true)
	}
}

func TestBentSegments(t *testing.T) {
	t.Parallel()
	random := rand.New(rand.NewSource(3))
	wholes := []string{
		segment(0, nil), segment(9, nil, s), segment(1<<40, []api.Rec{s}, data(1, "body"), s), segment(9, states(3), states(2)...), segment(9, []api.Rec{data(1, strings.Repeat("x", 130))}, s),
	}
	for range 60000 {
		readsAs(t, bent(random, wholes[random.Intn(len(wholes))]))
	}
}

// TestBentTexts: bent ahead of their checksums, which are right.
func TestBentTexts(t *testing.T) {
	t.Parallel()
	random := rand.New(rand.NewSource(4))
	texts := []string{"\x01\x01\x09", "\x01\x81\x00\x89\x00"}
	for _, r := range []api.Rec{s, state(128), state(math.MaxUint64), data(1, ""), data(200, "body"), {Kind: api.RecEntry, Entry: api.Entry{Index: 3, Term: 2, Kind: api.EConf, Body: "\x07"}}, {Kind: api.RecEntry, Entry: api.Entry{Index: 3, Term: 2, Kind: api.ETick}}} {
		texts = append(texts, textByHand(r))
	}
	for range 60000 {
		text := bent(random, texts[random.Intn(len(texts))])
		readsAs(t, rowByHand(text)+rows(s))
		readsAs(t, headByHand(uint64(random.Intn(3)), 9)+rows(s)+rowByHand(text)+rows(s))
	}
}

// TestShortTexts: each text of up to three bytes of a small alphabet, as a head and as a record.
func TestShortTexts(t *testing.T) {
	alphabet := []string{"\x00", "\x01", "\x02", "\x03", "\x05", "\x7f", "\x80", "\x81", "\xff"}
	texts := []string{""}
	for from := 0; len(texts[from]) < 4; from++ {
		for _, c := range alphabet {
			texts = append(texts, texts[from]+c)
		}
	}
	for _, text := range texts {
		readsAs(t, rowByHand(text)+rows(s))
		readsAs(t, headByHand(1, 9)+rowByHand(text)+rows(s))
	}
}

// TestOtherTables: nothing is promised about them, but that every call ends.
func TestOtherTables(t *testing.T) {
	var other sum.Table
	for fill := range uint32(3) {
		for i := range other {
			other[i] = fill * math.MaxUint32 / 2
		}
		d := disk.New()
		l, e := wal.Begin(d, &other, 1, 9, []api.Rec{s})
		are(t, api.OK, e, l.Add(s, data(1, "x")))
		isBehind(t, l, 1, 2)
		for _, tab := range []*sum.Table{&table, &other} {
			if _, _, _, e := wal.Read(d, tab, 1); e != api.OK {
				t.Fatalf("Read returned %d", e)
			}
		}
	}
}

func TestRecordsShareNoMemory(t *testing.T) {
	body := strings.Repeat("b", 40)
	d := disk.New()
	l := begin(t, d, 1, 9, data(1, body), data(2, body))
	are(t, api.OK, l.Add(data(3, body)))
	_, a, _, _ := wal.Read(d, &table, 1)
	_, b, _, _ := wal.Read(d, &table, 1)
	bodies := []string{body}
	for _, r := range append(slices.Clone(a), b...) {
		for _, other := range bodies {
			if liesIn(r.Entry.Body, other) || liesIn(other, r.Entry.Body) {
				t.Fatalf("the Body of %v shares memory", r)
			}
		}
		bodies = append(bodies, r.Entry.Body)
	}
	if len(bodies) != 7 {
		t.Fatalf("%d records", len(bodies)-1)
	}
	// One list is the caller's, whatever room it has.
	clear(a[:cap(a)])
	_ = append(a[:0], s, s, s, s)
	if want := []api.Rec{data(1, body), data(2, body), data(3, body)}; !slices.Equal(b, want) {
		t.Fatalf("another list changed: %v", b)
	}
	are(t, api.OK, l.Add(s))
	isRead(t, d, 1, 9, []api.Rec{data(1, body), data(2, body), data(3, body), s}, true)
}

// TestMemoryIsNoMoreThanWhatIsThere: a length or a number that a file tells reserves nothing.
func TestMemoryIsNoMoreThanWhatIsThere(t *testing.T) {
	for _, n := range []uint64{1 << 31, 1 << 40, 1 << 62, math.MaxUint64} {
		d := disk.New()
		are(t, api.OK, d.Append(wal.Name(1), headByHand(n, 9)+rows(s)+rowOf(n, 0, "x")))
		isRead(t, d, 1, 9, []api.Rec{s}, false)
	}
}

func FuzzRead(f *testing.F) {
	for _, seed := range []string{"", segment(0, nil), segment(9, states(2), s, data(1, "body")), rows(s), headByHand(3, 9) + rows(data(1, strings.Repeat("x", 130))), headByHand(0, 0) + headByHand(0, 0)} {
		f.Add(seed)
	}
	f.Fuzz(func(t *testing.T, contents string) { readsAs(t, contents) })
}
