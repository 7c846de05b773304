package msg

import (
	"wapentake/api"
	"wapentake/entry"
	"wapentake/num"
)

// reader takes each field off the front of rest. Where the bytes do not fit a field, that field is zero, and the reader is bad from then on.
type reader struct {
	rest string
	bad  bool
}

func (r *reader) octet() uint8 {
	n, ok := num.ReadU(r.rest, 1)
	r.take(1, ok)
	return uint8(n)
}

func (r *reader) groups() uint64 {
	n, size, ok := num.ReadV(r.rest)
	r.take(size, ok)
	return n
}

func (r *reader) text() string {
	s, size, ok := num.ReadS(r.rest)
	r.take(size, ok)
	return s
}

func (r *reader) truth() bool {
	n := r.octet()
	if n > 1 {
		r.fail()
	}
	return n == 1
}

// entries takes as many entries as the number before them tells. Whether a message may have so many is not asked here.
func (r *reader) entries() []api.Entry {
	entries := make([]api.Entry, r.octet())
	for i := range entries {
		entries[i] = r.entry()
	}
	return entries
}

func (r *reader) entry() api.Entry {
	e, ok := entry.Read(r.text())
	if !ok {
		r.fail()
	}
	return e
}

func (r *reader) take(size int, fits bool) {
	if !fits {
		r.fail()
		return
	}
	r.rest = r.rest[size:]
}

// fail drops all bytes: no later field fits either then, since none has fewer than one.
func (r *reader) fail() {
	r.bad = true
	r.rest = ""
}

// ended reports whether all fields fitted, and nothing is left behind them.
func (r *reader) ended() bool {
	return !r.bad && r.rest == ""
}
