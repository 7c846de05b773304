package wal

import (
	"wapentake/api"
	"wapentake/entry"
	"wapentake/num"
	"wapentake/row"
	"wapentake/sum"
)

// headText returns the text of a head.
func headText(base int, snap uint64) string {
	return num.U(api.RecBase, 1) + num.V(uint64(base), snap)
}

// readHead returns of a head's text the number of records of the base, and the index of the snapshot.
func readHead(text string) (base, snap uint64, ok bool) {
	if text == "" || text[0] != api.RecBase {
		return 0, 0, false
	}
	rest := text[1:]
	base, size, ok := num.ReadV(rest)
	if !ok {
		return 0, 0, false
	}
	rest = rest[size:]
	snap, size, ok = num.ReadV(rest)
	if !ok || size < len(rest) {
		return 0, 0, false
	}
	return base, snap, true
}

// recordTexts returns the texts of these; it is not ok if one is no record.
func recordTexts(recs []api.Rec) (texts []string, ok bool) {
	for _, r := range recs {
		text := recordText(r)
		if text == "" {
			return nil, false
		}
		texts = append(texts, text)
	}
	return texts, true
}

// recordText returns the text of r, or the empty string if r is no record.
func recordText(r api.Rec) string {
	switch r.Kind {
	case api.RecState:
		if r.Entry == (api.Entry{}) {
			return num.U(api.RecState, 1) + num.V(r.Term) + num.U(uint64(r.Vote), 1)
		}
	case api.RecEntry:
		if r.Term == 0 && r.Vote == 0 && entry.Right(r.Entry) {
			return num.U(api.RecEntry, 1) + entry.Write(r.Entry)
		}
	}
	return ""
}

// readRecords returns the records whose rows s begins with, up to the first place where there is no row of one.
func readRecords(t *sum.Table, s string) []api.Rec {
	var recs []api.Rec
	for {
		text, size, ok := row.Read(t, s)
		if !ok {
			return recs
		}
		r, ok := readRecord(text)
		if !ok {
			return recs
		}
		recs = append(recs, r)
		s = s[size:]
	}
}

// readRecord returns the record whose text this is.
func readRecord(text string) (api.Rec, bool) {
	if text == "" {
		return api.Rec{}, false
	}
	switch text[0] {
	case api.RecState:
		return readState(text[1:])
	case api.RecEntry:
		return readEntry(text[1:])
	}
	return api.Rec{}, false
}

func readState(s string) (api.Rec, bool) {
	term, size, ok := num.ReadV(s)
	if !ok || len(s) != size+1 {
		return api.Rec{}, false
	}
	return api.Rec{Kind: api.RecState, Term: term, Vote: s[size]}, true
}

func readEntry(s string) (api.Rec, bool) {
	e, ok := entry.Read(s)
	if !ok {
		return api.Rec{}, false
	}
	return api.Rec{Kind: api.RecEntry, Entry: e}, true
}
