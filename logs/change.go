package logs

import (
	"slices"

	"wapentake/api"
)

// Add appends e as the last entry, and returns it as it is in the log.
func (l *Log) Add(e api.Entry) api.Entry {
	if !l.isMade() {
		return api.Entry{}
	}
	index, term := l.Last()
	e.Index, e.Term = index+1, max(e.Term, term)
	l.entries = append(l.entries, twin(e))
	return twin(e)
}

// Put lets the log continue with entries behind this index, at which it has this term. It returns the index up to which the log has them then, and those that it did not have.
func (l *Log) Put(index, term uint64, entries []api.Entry) (ok bool, match uint64, fresh []api.Entry) {
	if !l.isMade() || !fit(index, term, entries) || !l.joins(index, term, entries) {
		return false, 0, nil
	}
	fresh = l.lacking(entries)
	if len(fresh) > 0 {
		// Deleted, not only overwritten, as a longer end would stay in the spare capacity.
		kept := slices.Delete(l.entries, l.below(fresh[0].Index), len(l.entries))
		l.entries = append(kept, copies(fresh)...)
	}
	// As they join the log, this is not below the beginning's index.
	return true, index + uint64(len(entries)), copies(fresh)
}

// joins reports whether entries that fit this index and term join the log: whether it has that position or, if that is before its beginning, they have the beginning.
func (l *Log) joins(index, term uint64, entries []api.Entry) bool {
	if index >= l.index {
		return l.has(index, term)
	}
	return slices.ContainsFunc(entries, func(e api.Entry) bool {
		return e.Index == l.index && e.Term == l.term
	})
}

// lacking returns those of entries, which join the log, that it does not have: the first one behind its beginning that it has with another term or not at all, and all that follow.
func (l *Log) lacking(entries []api.Entry) []api.Entry {
	for i, e := range entries {
		if e.Index > l.index && !l.has(e.Index, e.Term) {
			return entries[i:]
		}
	}
	return nil
}

// Cut removes the entries up to this index, which becomes the beginning's.
func (l *Log) Cut(index uint64) api.Errno {
	if !l.isMade() {
		return api.ErrNone
	}
	if index < l.index {
		return api.ErrOld
	}
	term, ok := l.Term(index)
	if !ok {
		return api.ErrNone
	}
	l.begin(index, term, l.MembersAt(index))
	return api.OK
}

// Reset sets the beginning. If the log does not have that position, it loses all entries.
func (l *Log) Reset(index, term uint64, members uint8) {
	if !l.isMade() {
		return
	}
	if !l.has(index, term) {
		l.entries = nil
	}
	l.begin(index, term, members)
}

// begin sets the beginning, and cuts off the entries up to it.
func (l *Log) begin(index, term uint64, members uint8) {
	cut, end := l.upTo(index), len(l.entries)
	// What is cut off goes at once, and its room with the next append, which finds no spare capacity and moves what is left to an array of its own.
	clear(l.entries[:cut])
	l.entries = l.entries[cut:end:end]
	l.index, l.term, l.members = index, term, members
}
