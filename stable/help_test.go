package stable_test

import (
	"fmt"
	"hash/crc32"
	"slices"
	"strings"
	"testing"
	"unsafe"

	"wapentake/api"
	"wapentake/disk"
	"wapentake/entry"
	"wapentake/stable"
	"wapentake/sum"
)

// table is the one that all tests pass on; none may change it.
var table = sum.Make()

func state(term uint64, vote uint8) api.Rec {
	return api.Rec{Kind: api.RecState, Term: term, Vote: vote}
}

func noop(index, term uint64) api.Rec {
	return api.Rec{Kind: api.RecEntry, Entry: api.Entry{Index: index, Term: term, Kind: api.ENoop}}
}

func data(index, term uint64, body string) api.Rec {
	return api.Rec{Kind: api.RecEntry, Entry: api.Entry{Index: index, Term: term, Kind: api.EData, Slot: 1, Token: api.Token{1, 2, 3}, Body: body}}
}

// noops are records of entries of these terms, from an index on.
func noops(index uint64, terms ...uint64) []api.Rec {
	var recs []api.Rec
	for _, term := range terms {
		recs = append(recs, noop(index, term))
		index++
	}
	return recs
}

func entriesOf(recs []api.Rec) []api.Entry {
	var entries []api.Entry
	for _, r := range recs {
		entries = append(entries, r.Entry)
	}
	return entries
}

// bare is a snapshot without sections, but with members.
func bare(index, term uint64) api.Snap { return api.Snap{Index: index, Term: term, Members: 7} }

// full is a snapshot with sections of several lengths, some of which are rows.
func full(index, term uint64) api.Snap {
	return api.Snap{Index: index, Term: term, Members: 255, Sections: [api.Queues]string{"a", "", strings.Repeat("\x80", 200), rowByHand("x") + rowByHand(""), "\x00"}}
}

// noRecords are elements that are no records, each nearly one; the entries among them would come next behind an entry 1 1.
func noRecords() []api.Rec {
	valid := data(2, 1, "x").Entry
	all := []api.Rec{{}, {Term: 5, Vote: 2}, {Entry: valid}, {Kind: api.RecState, Term: 5, Vote: 2, Entry: valid}, {Kind: api.RecEntry}, {Kind: api.RecEntry, Term: 1, Entry: valid}, {Kind: api.RecEntry, Vote: 1, Entry: valid}}
	for _, kind := range []uint8{0, api.RecBase, 4, 5, 9, 255} {
		all = append(all, api.Rec{Kind: kind}, api.Rec{Kind: kind, Term: 5, Vote: 2}, api.Rec{Kind: kind, Entry: valid})
	}
	// A field of the entry alone, beside a state.
	for _, e := range []api.Entry{{Index: 1}, {Term: 1}, {Kind: 1}, {Slot: 1}, {Token: api.Token{7: 1}}, {Body: "\x00"}} {
		all = append(all, api.Rec{Kind: api.RecState, Term: 5, Entry: e})
	}
	// Entries that are not valid.
	for _, e := range []api.Entry{
		{Term: 1, Kind: api.ENoop}, {Index: 2, Kind: api.ENoop}, {Index: 2, Term: 1}, {Index: 2, Term: 1, Kind: 6}, {Index: 2, Term: 1, Kind: api.ENoop, Body: "x"}, {Index: 2, Term: 1, Kind: api.ETick, Slot: 1},
		{Index: 2, Term: 1, Kind: api.EConf}, {Index: 2, Term: 1, Kind: api.EConf, Body: "\x20"}, {Index: 2, Term: 1, Kind: api.EData, Slot: 4}, {Index: 2, Term: 1, Kind: api.EOper, Token: api.Token{1}},
	} {
		all = append(all, api.Rec{Kind: api.RecEntry, Entry: e})
	}
	return all
}

// equal reports whether two states are the same, lists without elements being equal.
func equal(a, b stable.Kept) bool {
	return a.Term == b.Term && a.Vote == b.Vote && a.Snap == b.Snap && slices.Equal(a.Entries, b.Entries)
}

// brief tells a state, but not at any length.
func brief(k stable.Kept) string {
	return fmt.Sprintf("%.900s", fmt.Sprintf("Term %d, Vote %d, %v, %d entries: %v", k.Term, k.Vote, k.Snap, len(k.Entries), k.Entries))
}

// isKept demands that a state is this one.
func isKept(t *testing.T, got, want stable.Kept) {
	t.Helper()
	if !equal(got, want) {
		t.Fatalf("%s\nnot %s", brief(got), brief(want))
	}
}

// are demands that the calls return these errors, one after the other.
func are(t *testing.T, want api.Errno, got ...api.Errno) {
	t.Helper()
	for k, e := range got {
		if e != want {
			t.Fatalf("the call %d returned %d, not %d", k, e, want)
		}
	}
}

// lists demands that these are the disk's files, in this order.
func lists(t *testing.T, d *disk.Disk, names ...string) {
	t.Helper()
	if got := d.List(); !slices.Equal(got, names) {
		t.Fatalf("files %q, not %q", got, names)
	}
}

// open opens a disk, which must succeed and return a store with the state that is returned beside it.
func open(t *testing.T, d *disk.Disk) (*stable.Store, stable.Kept) {
	t.Helper()
	s, k, e := stable.Open(d, &table)
	if e != api.OK || s == nil {
		t.Fatalf("Open returned %v, %d", s, e)
	}
	isKept(t, s.Kept(), k)
	return s, k
}

// isNotOpen demands that a disk cannot be opened.
func isNotOpen(t *testing.T, want api.Errno, d *disk.Disk, tab *sum.Table) {
	t.Helper()
	s, k, e := stable.Open(d, tab)
	if s != nil || e != want || !equal(k, stable.Kept{}) {
		t.Fatalf("Open returned %v, %s, %d, not %d", s, brief(k), e, want)
	}
}

// crashed returns a twin after a crash, with the power on.
func crashed(d *disk.Disk, keep, torn int) *disk.Disk {
	u := d.Twin()
	u.Crash(api.Crash{Keep: []int{keep}, Torn: []int{torn}})
	u.Start()
	u.Fuse(0)
	return u
}

// contentsOf returns what a file has. A twin is asked, as the power may be off.
func contentsOf(d *disk.Disk, name string) string {
	u := d.Twin()
	u.Start()
	s, _ := u.Read(name)
	return s
}

// areEqual demands that two disks tell the same.
func areEqual(t *testing.T, a, b *disk.Disk) {
	t.Helper()
	if a.Down() != b.Down() || a.Fused() != b.Fused() || !slices.Equal(a.List(), b.List()) {
		t.Fatalf("down %v, %v; fuses of %d, %d; files %q, %q", a.Down(), b.Down(), a.Fused(), b.Fused(), a.List(), b.List())
	}
	for _, name := range a.List() {
		all, synced := a.Records(name)
		if others, othersSynced := b.Records(name); all != others || synced != othersSynced {
			t.Fatalf("%q has %d and %d records, %d and %d of them synced", name, all, others, synced, othersSynced)
		}
		if x, y := contentsOf(a, name), contentsOf(b, name); x != y {
			t.Fatalf("%q has %.300x and %.300x", name, x, y)
		}
	}
}

func octet(n uint8) string { return string([]byte{n}) }

// digits are the groups of n, as chapter 1 defines them.
func digits(n uint64) string {
	d := octet(uint8(n % 128))
	for n /= 128; n > 0; n /= 128 {
		d = octet(uint8(n%128+128)) + d
	}
	return d
}

// rowByHand returns the row of a text, as chapter 8 defines it.
func rowByHand(text string) string {
	check := crc32.Checksum([]byte(text), crc32.MakeTable(crc32.Castagnoli))
	return digits(uint64(len(text))) + octet(uint8(check>>24)) + octet(uint8(check>>16)) + octet(uint8(check>>8)) + octet(uint8(check)) + text
}

// segmentByHand returns the rows of a segment with this base.
func segmentByHand(snap uint64, base []api.Rec) []string {
	return append([]string{rowByHand("\x01" + digits(uint64(len(base))) + digits(snap))}, rowsByHand(base)...)
}

func rowsByHand(recs []api.Rec) []string {
	var rows []string
	for _, r := range recs {
		if r.Kind == api.RecState {
			rows = append(rows, rowByHand("\x02"+digits(r.Term)+octet(r.Vote)))
		} else {
			rows = append(rows, rowByHand("\x03"+entry.Write(r.Entry)))
		}
	}
	return rows
}

// snapByHand returns the rows of a snapshot's file.
func snapByHand(snap api.Snap) []string {
	rows := []string{rowByHand(digits(snap.Index) + digits(snap.Term) + digits(uint64(snap.Members)))}
	for _, section := range snap.Sections {
		rows = append(rows, rowByHand(section))
	}
	return rows
}

func baseByHand(k stable.Kept) []api.Rec {
	base := []api.Rec{state(k.Term, k.Vote)}
	for _, e := range k.Entries {
		base = append(base, api.Rec{Kind: api.RecEntry, Entry: e})
	}
	return base
}

func segName(n uint64) string { return fmt.Sprintf("seg.%08d", n) }

func snapName(index uint64) string { return fmt.Sprintf("snap.%08d", index) }

// put appends records to a file, and syncs it.
func put(t *testing.T, d *disk.Disk, name string, records ...string) {
	t.Helper()
	for _, r := range records {
		are(t, api.OK, d.Append(name, r))
	}
	are(t, api.OK, d.Sync(name))
}

// lying returns a string that lies in these bytes, and changes with them.
func lying(b []byte) string { return unsafe.String(&b[0], len(b)) }

// liesIn reports whether a lies in the bytes of b.
func liesIn(a, b string) bool {
	from := uintptr(unsafe.Pointer(unsafe.StringData(b)))
	at := uintptr(unsafe.Pointer(unsafe.StringData(a)))
	return len(a) > 0 && at >= from && at < from+uintptr(len(b))
}

func isRecord(r api.Rec) bool {
	switch {
	case r.Kind == api.RecState:
		return r == api.Rec{Kind: r.Kind, Term: r.Term, Vote: r.Vote}
	case r.Kind == api.RecEntry:
		return r == api.Rec{Kind: r.Kind, Entry: r.Entry} && entry.Right(r.Entry)
	}
	return false
}

// suits reports whether a record suits a state, by the chapter's words: one place of the line of the snapshot and the entries must be that before it.
func suits(k stable.Kept, r api.Rec) bool {
	if !isRecord(r) {
		return false
	}
	line := append([]api.Entry{{Index: k.Snap.Index, Term: k.Snap.Term}}, k.Entries...)
	return r.Kind == api.RecState || slices.ContainsFunc(line, func(e api.Entry) bool {
		return r.Entry.Index > e.Index && r.Entry.Index-e.Index == 1 && r.Entry.Term >= e.Term
	})
}

// afterByHand is the state after records; it is not ok if one does not suit.
func afterByHand(k stable.Kept, recs ...api.Rec) (stable.Kept, bool) {
	for _, r := range recs {
		if !suits(k, r) {
			return stable.Kept{}, false
		}
		if r.Kind == api.RecState {
			k.Term, k.Vote = r.Term, r.Vote
			continue
		}
		var entries []api.Entry
		for _, e := range k.Entries {
			if e.Index < r.Entry.Index {
				entries = append(entries, e)
			}
		}
		k.Entries = append(entries, r.Entry)
	}
	return k, true
}

// cutByHand is the state after a snapshot; it is not ok if it does not suit.
func cutByHand(k stable.Kept, snap api.Snap) (stable.Kept, bool) {
	if snap.Index <= k.Snap.Index {
		return stable.Kept{}, false
	}
	var above []api.Entry
	isThere := false
	for _, e := range k.Entries {
		isThere = isThere || e.Index == snap.Index && e.Term == snap.Term
		if e.Index > snap.Index {
			above = append(above, e)
		}
	}
	if !isThere {
		above = nil
	}
	return stable.Kept{Term: k.Term, Vote: k.Vote, Snap: snap, Entries: above}, true
}
