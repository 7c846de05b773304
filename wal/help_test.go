package wal_test

import (
	"fmt"
	"hash/crc32"
	"math"
	"math/rand"
	"slices"
	"strings"
	"testing"
	"unsafe"

	"wapentake/api"
	"wapentake/disk"
	"wapentake/entry"
	"wapentake/sum"
	"wapentake/wal"
)

const ffs = "\xff\xff\xff\xff\xff\xff\xff\xff"

// table is the one that all tests pass on; none may change it.
var table = sum.Make()

// numbers are those at the edges of nothing, of a byte, of counts of digits, of the greatest index that is promised, and of what there is.
var numbers = []uint64{0, 1, 2, 127, 128, 129, 255, 256, 16383, 16384, 1<<21 - 1, 1 << 21, 1 << 32, 1<<35 - 1, 1 << 35, 1 << 40, 1<<56 - 1, 1 << 56, 1<<63 - 1, 1 << 63, math.MaxUint64 - 1, math.MaxUint64}

// s is the chapter's record.
var s = api.Rec{Kind: api.RecState, Term: 5, Vote: 2}

func state(term uint64) api.Rec { return api.Rec{Kind: api.RecState, Term: term, Vote: 3} }

// data is an entry with a Body.
func data(index uint64, body string) api.Rec {
	return api.Rec{Kind: api.RecEntry, Entry: api.Entry{Index: index, Term: 2, Kind: api.EData, Slot: 1, Token: api.Token{1, 2, 3}, Body: body}}
}

// states are so many records.
func states(n int) []api.Rec {
	var all []api.Rec
	for k := range n {
		all = append(all, state(uint64(k+1)))
	}
	return all
}

// manyRecords are records of every sort, with everything at the edges.
func manyRecords() []api.Rec {
	var all []api.Rec
	for _, n := range numbers {
		all = append(all, state(n), api.Rec{Kind: api.RecState, Term: n})
	}
	for vote := range 256 {
		all = append(all, api.Rec{Kind: api.RecState, Term: 1, Vote: uint8(vote)})
	}
	put := func(e api.Entry) { all = append(all, api.Rec{Kind: api.RecEntry, Entry: e}) }
	for _, n := range numbers[1:] {
		put(api.Entry{Index: n, Term: 1, Kind: api.ENoop})
		put(api.Entry{Index: 1, Term: n, Kind: api.ETick})
		put(api.Entry{Index: n, Term: n, Kind: api.EOper, Body: "oper"})
		put(api.Entry{Index: n, Term: n, Kind: api.EConf, Body: "\x1f"})
		put(api.Entry{Index: n, Term: n, Kind: api.EData, Slot: 3, Token: api.Token([]byte(ffs))})
	}
	for _, n := range []int{0, 1, 2, 100, 112, 113, 114, 126, 127, 128, 129, 255, 256, 16360, 16383, 16384, 1 << 18} {
		for _, c := range []string{"\x00", "\x01", "\x02", "\x03", "\x80", "\xff"} {
			all = append(all, data(3, strings.Repeat(c, n)))
		}
	}
	// Bodies that are rows themselves, of records and of a head.
	return append(all, data(1, rowByHand(textByHand(s))), data(1, segment(7, states(2), data(1, "x"))))
}

// noRecords are elements that are no records, each nearly one.
func noRecords() []api.Rec {
	valid := data(1, "x").Entry
	all := []api.Rec{
		{}, {Term: 5, Vote: 2}, {Entry: valid},
		{Kind: api.RecBase}, {Kind: api.RecBase, Term: 1}, {Kind: api.RecBase, Entry: valid},
		{Kind: api.RecState, Term: 5, Vote: 2, Entry: valid},
		{Kind: api.RecEntry, Term: 1, Entry: valid}, {Kind: api.RecEntry, Vote: 1, Entry: valid}, {Kind: api.RecEntry, Term: math.MaxUint64, Vote: 255, Entry: valid},
		{Kind: api.RecEntry}, {Kind: api.RecEntry, Term: 5, Vote: 2},
	}
	for kind := range 256 {
		if kind == api.RecState || kind == api.RecEntry {
			continue
		}
		all = append(all, api.Rec{Kind: uint8(kind)}, api.Rec{Kind: uint8(kind), Term: 5, Vote: 2}, api.Rec{Kind: uint8(kind), Entry: valid})
	}
	// A field of the entry alone, beside a state.
	for _, e := range []api.Entry{{Index: 1}, {Term: 1}, {Kind: 1}, {Slot: 1}, {Token: api.Token{7: 1}}, {Body: "\x00"}} {
		all = append(all, api.Rec{Kind: api.RecState, Entry: e}, api.Rec{Kind: api.RecState, Term: 5, Vote: 2, Entry: e})
	}
	// Entries that are not valid.
	for _, e := range []api.Entry{
		{Term: 1, Kind: api.ENoop}, {Index: 1, Kind: api.ENoop}, {Index: 1, Term: 1}, {Index: 1, Term: 1, Kind: 6}, {Index: 1, Term: 1, Kind: 255},
		{Index: 1, Term: 1, Kind: api.ENoop, Body: "x"}, {Index: 1, Term: 1, Kind: api.ETick, Slot: 1}, {Index: 1, Term: 1, Kind: api.ETick, Token: api.Token{1}},
		{Index: 1, Term: 1, Kind: api.EConf}, {Index: 1, Term: 1, Kind: api.EConf, Body: "\x20"}, {Index: 1, Term: 1, Kind: api.EConf, Body: "\x01\x01"}, {Index: 1, Term: 1, Kind: api.EConf, Slot: 1, Body: "\x01"},
		{Index: 1, Term: 1, Kind: api.EData, Slot: 4}, {Index: 1, Term: 1, Kind: api.EData, Slot: 255, Body: "x"}, {Term: 1, Kind: api.EData}, {Index: 1, Kind: api.EData},
		{Index: 1, Term: 1, Kind: api.EOper, Slot: 1}, {Index: 1, Term: 1, Kind: api.EOper, Token: api.Token{7: 1}},
	} {
		all = append(all, api.Rec{Kind: api.RecEntry, Entry: e})
	}
	return all
}

func octet(n uint8) string { return string([]byte{n}) }

// digits are the groups of n, as chapter 1 defines them.
func digits(n uint64) string {
	d := octet(uint8(n % 128))
	for n /= 128; n > 0; n /= 128 {
		d = octet(uint8(n%128+128)) + d
	}
	return d
}

// textByHand returns the text of a record, by the chapter's words.
func textByHand(r api.Rec) string {
	if r.Kind == api.RecState {
		return "\x02" + digits(r.Term) + octet(r.Vote)
	}
	return "\x03" + entry.Write(r.Entry)
}

// rowOf returns a row with any checksum and any length.
func rowOf(length uint64, check uint32, text string) string {
	return digits(length) + octet(uint8(check>>24)) + octet(uint8(check>>16)) + octet(uint8(check>>8)) + octet(uint8(check)) + text
}

func checksum(text string) uint32 {
	return crc32.Checksum([]byte(text), crc32.MakeTable(crc32.Castagnoli))
}

func rowByHand(text string) string {
	return rowOf(uint64(len(text)), checksum(text), text)
}

func headByHand(base, snap uint64) string {
	return rowByHand("\x01" + digits(base) + digits(snap))
}

// rows are those of records, one behind the other.
func rows(recs ...api.Rec) string {
	var all strings.Builder
	for _, r := range recs {
		all.WriteString(rowByHand(textByHand(r)))
	}
	return all.String()
}

// segment returns the contents of a segment with this base, and more behind it.
func segment(snap uint64, base []api.Rec, more ...api.Rec) string {
	return headByHand(uint64(len(base)), snap) + rows(base...) + rows(more...)
}

// stored is what is stored in a file with these contents, found by trying each length of a row.
func stored(contents string) (snap uint64, recs []api.Rec, counts bool) {
	text, rest, ok := rowByTrial(contents)
	base, snap, isHead := headByTrial(text)
	if !ok || !isHead {
		return 0, nil, false
	}
	for {
		text, rest, ok = rowByTrial(rest)
		r, isRecord := recordByTrial(text)
		if !ok || !isRecord {
			return snap, recs, uint64(len(recs)) >= base
		}
		recs = append(recs, r)
	}
}

func rowByTrial(contents string) (text, rest string, ok bool) {
	for length := range len(contents) {
		size := len(digits(uint64(length))) + 4 + length
		if size > len(contents) {
			break
		}
		if text := contents[size-length : size]; contents[:size] == rowByHand(text) {
			return text, contents[size:], true
		}
	}
	return "", "", false
}

// number returns the number whose groups these may be.
func number(groups string) uint64 {
	n := uint64(0)
	for i := range len(groups) {
		n = n<<7 | uint64(groups[i]&127)
	}
	return n
}

func headByTrial(text string) (base, snap uint64, ok bool) {
	for at := 2; at < len(text); at++ {
		base, snap = number(text[1:at]), number(text[at:])
		if text == "\x01"+digits(base)+digits(snap) {
			return base, snap, true
		}
	}
	return 0, 0, false
}

func recordByTrial(text string) (api.Rec, bool) {
	if len(text) < 3 {
		return api.Rec{}, false
	}
	last := len(text) - 1
	e, ok := entry.Read(text[1:])
	for _, r := range []api.Rec{{Kind: api.RecState, Term: number(text[1:last]), Vote: text[last]}, {Kind: api.RecEntry, Entry: e}} {
		if textByHand(r) == text && (r.Kind == api.RecState || ok) {
			return r, true
		}
	}
	return api.Rec{}, false
}

// begin begins a segment, which must succeed.
func begin(t *testing.T, d *disk.Disk, n, snap uint64, base ...api.Rec) *wal.Log {
	t.Helper()
	l, e := wal.Begin(d, &table, n, snap, base)
	if e != api.OK || l == nil {
		t.Fatalf("Begin returned %d, %v", e, l)
	}
	return l
}

// isNoLog demands that a segment cannot be begun.
func isNoLog(t *testing.T, want api.Errno, d *disk.Disk, tab *sum.Table, n uint64, base []api.Rec) {
	t.Helper()
	if l, e := wal.Begin(d, tab, n, 7, base); e != want || l != nil {
		t.Fatalf("Begin returned %v, %d, not %d", l, e, want)
	}
}

// isBehind demands that a log is of the segment n, with so many records behind the base.
func isBehind(t *testing.T, l *wal.Log, n uint64, behind int) {
	t.Helper()
	if l.N() != n || l.Behind() != behind {
		t.Fatalf("the segment %d with %d records behind the base, not %d, %d", l.N(), l.Behind(), n, behind)
	}
}

// are demands that the calls return these errors, one after the other.
func are(t *testing.T, want api.Errno, got ...api.Errno) {
	t.Helper()
	for k, e := range got {
		if e != want {
			t.Fatalf("the call %d returned %d, not %d", k, e, want)
		}
	}
}

// isRead demands that the segment n is read so.
func isRead(t *testing.T, d *disk.Disk, n, snap uint64, recs []api.Rec, counts bool) {
	t.Helper()
	gotSnap, got, gotCounts, e := wal.Read(d, &table, n)
	if e != api.OK || gotSnap != snap || gotCounts != counts || !slices.Equal(got, recs) {
		t.Fatalf("the segment %d read as a snapshot at %d, %s, counts %v, %d, not at %d, %s, %v", n, gotSnap, brief(got), gotCounts, e, snap, brief(recs), counts)
	}
}

// isNotRead demands that reading fails.
func isNotRead(t *testing.T, want api.Errno, d *disk.Disk, tab *sum.Table, n uint64) {
	t.Helper()
	if snap, recs, counts, e := wal.Read(d, tab, n); e != want || snap != 0 || len(recs) != 0 || counts {
		t.Fatalf("the segment %d read as a snapshot at %d, %v, counts %v, %d, not %d", n, snap, recs, counts, e, want)
	}
}

// readsAs demands of the contents of a file that they are read as those that are stored by trial.
func readsAs(t *testing.T, contents string) {
	t.Helper()
	d := disk.New()
	if contents != "" {
		are(t, api.OK, d.Append(wal.Name(1), contents))
	} else {
		d = empty(t)
	}
	snap, recs, counts := stored(contents)
	gotSnap, got, gotCounts, e := wal.Read(d, &table, 1)
	if e != api.OK || gotSnap != snap || gotCounts != counts || !slices.Equal(got, recs) {
		t.Fatalf("%.300x read as a snapshot at %d, %s, counts %v, %d, not at %d, %s, %v", contents, gotSnap, brief(got), gotCounts, e, snap, brief(recs), counts)
	}
}

// empty returns a disk on which the segment 1 is a file without records.
func empty(t *testing.T) *disk.Disk {
	t.Helper()
	d := disk.New()
	are(t, api.OK, d.Append(wal.Name(1), "x"))
	return crashed(d, nil, nil)
}

// crashed returns a twin after a crash, with the power on.
func crashed(d *disk.Disk, keep, torn []int) *disk.Disk {
	u := d.Twin()
	u.Crash(api.Crash{Keep: keep, Torn: torn})
	u.Start()
	return u
}

// contentsOf returns what is on a disk, by names. A twin is asked, as the power may be off.
func contentsOf(d *disk.Disk) map[string]string {
	u := d.Twin()
	u.Start()
	all := map[string]string{}
	for _, name := range u.List() {
		all[name], _ = u.Read(name)
	}
	return all
}

// has demands that a file has these contents, and so many records, all of them synced.
func has(t *testing.T, d *disk.Disk, name, contents string, records int) {
	t.Helper()
	if got := contentsOf(d)[name]; got != contents {
		t.Fatalf("%q has %.300x, not %.300x", name, got, contents)
	}
	if all, synced := d.Records(name); all != records || synced != records {
		t.Fatalf("%q has %d records, %d of them synced, not %d", name, all, synced, records)
	}
}

// brief tells records, but not at any length.
func brief(recs []api.Rec) string {
	return fmt.Sprintf("%.500s", fmt.Sprintf("%d: %v", len(recs), recs))
}

// bent changes, drops or puts in up to three bytes.
func bent(random *rand.Rand, text string) string {
	b := []byte(text)
	for range 1 + random.Intn(3) {
		at := random.Intn(len(b) + 1)
		n := byte(random.Intn(256))
		if random.Intn(2) == 0 {
			n %= 7
		}
		switch {
		case random.Intn(3) == 0:
			b = slices.Insert(b, at, n)
		case at == len(b):
		case random.Intn(2) == 0:
			b = slices.Delete(b, at, at+1)
		default:
			b[at] = n
		}
	}
	return string(b)
}

// lying returns a string that lies in these bytes, and changes with them.
func lying(b []byte) string { return unsafe.String(&b[0], len(b)) }

// liesIn reports whether a lies in the bytes of b.
func liesIn(a, b string) bool {
	from := uintptr(unsafe.Pointer(unsafe.StringData(b)))
	at := uintptr(unsafe.Pointer(unsafe.StringData(a)))
	return len(a) > 0 && at >= from && at < from+uintptr(len(b))
}
