package stable

import (
	"slices"
	"strings"

	"wapentake/api"
	"wapentake/entry"
)

// Kept is the durable state. The indexes of its entries are consecutive, from one above the snapshot's on.
type Kept struct {
	Term    uint64
	Vote    uint8
	Snap    api.Snap
	Entries []api.Entry
}

// After returns the state after the records.
func After(k Kept, recs ...api.Rec) (Kept, api.Errno) {
	next, ok := k.twin().after(recs)
	if !ok {
		return Kept{}, api.ErrArg
	}
	return next, api.OK
}

// Cut returns the state after the snapshot.
func Cut(k Kept, snap api.Snap) (Kept, api.Errno) {
	next, ok := k.twin().cut(snap)
	if !ok {
		return Kept{}, api.ErrOld
	}
	return next, api.OK
}

// after returns the state after the records, with a list of entries of its own, but with k's strings. It is not ok if one of them does not suit.
func (k Kept) after(recs []api.Rec) (Kept, bool) {
	k.Entries = slices.Clone(k.Entries)
	for _, r := range recs {
		if !isRecord(r) {
			return Kept{}, false
		}
		if r.Kind == api.RecState {
			k.Term, k.Vote = r.Term, r.Vote
			continue
		}
		at, ok := k.place(r.Entry.Index)
		if !ok || r.Entry.Term < k.termBefore(at) {
			return Kept{}, false
		}
		k.Entries = append(k.Entries[:at], ownEntry(r.Entry))
	}
	return k, true
}

func isRecord(r api.Rec) bool {
	switch r.Kind {
	case api.RecState:
		return r.Entry == (api.Entry{})
	case api.RecEntry:
		return r.Term == 0 && r.Vote == 0 && entry.Right(r.Entry)
	}
	return false
}

// place returns where among the entries the one of this index is, or where it would come to be as the last one. It is not ok if it is neither.
func (k Kept) place(index uint64) (at int, ok bool) {
	// Differences are compared, as an index above the last one's could wrap round.
	if index <= k.Snap.Index || index-k.Snap.Index-1 > uint64(len(k.Entries)) {
		return 0, false
	}
	return int(index - k.Snap.Index - 1), true
}

// termBefore returns the term of what comes before the entry at this place.
func (k Kept) termBefore(at int) uint64 {
	if at == 0 {
		return k.Snap.Term
	}
	return k.Entries[at-1].Term
}

// cut returns the state after the snapshot, with a list of entries of its own, but with k's strings. It is not ok if the snapshot does not suit.
func (k Kept) cut(snap api.Snap) (Kept, bool) {
	if snap.Index <= k.Snap.Index {
		return Kept{}, false
	}
	at, ok := k.place(snap.Index)
	if ok && at < len(k.Entries) && k.Entries[at].Term == snap.Term {
		k.Entries = slices.Clone(k.Entries[at+1:])
	} else {
		k.Entries = nil
	}
	k.Snap = ownSnap(snap)
	return k, true
}

// base returns the records that lead from the snapshot alone to k.
func (k Kept) base() []api.Rec {
	recs := []api.Rec{{Kind: api.RecState, Term: k.Term, Vote: k.Vote}}
	for _, e := range k.Entries {
		recs = append(recs, api.Rec{Kind: api.RecEntry, Entry: e})
	}
	return recs
}

// twin returns k in memory of its own.
func (k Kept) twin() Kept {
	k.Snap = ownSnap(k.Snap)
	k.Entries = slices.Clone(k.Entries)
	for i, e := range k.Entries {
		k.Entries[i] = ownEntry(e)
	}
	return k
}

func ownEntry(e api.Entry) api.Entry {
	e.Body = strings.Clone(e.Body)
	return e
}

func ownSnap(snap api.Snap) api.Snap {
	for i, section := range snap.Sections {
		snap.Sections[i] = strings.Clone(section)
	}
	return snap
}
