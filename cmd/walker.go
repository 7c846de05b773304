package cmd

import (
	"strings"

	"wapentake/api"
	"wapentake/num"
)

// walker visits fields one after the other. A method is given what a field has and returns what the walker finds in it: a writer what it was given, a reader what comes next in its bytes. Out of the bounds, or where no bytes fit, it is the zero value, and the walker is no longer sound.
type walker interface {
	octet(n, least, most uint8) uint8
	groups(n, most uint64) uint64
	text(s string) string
	token(t api.Token) api.Token
	sound() bool
}

// writer appends the encoding of each field to out.
type writer struct {
	out strings.Builder
	bad bool
}

func (w *writer) octet(n, least, most uint8) uint8 {
	if n < least || n > most {
		w.bad = true
		return 0
	}
	w.out.WriteByte(n)
	return n
}

func (w *writer) groups(n, most uint64) uint64 {
	if n > most {
		w.bad = true
		return 0
	}
	w.out.WriteString(num.V(n))
	return n
}

func (w *writer) text(s string) string {
	w.out.WriteString(num.S(s))
	return s
}

func (w *writer) token(t api.Token) api.Token {
	w.out.Write(t[:])
	return t
}

func (w *writer) sound() bool { return !w.bad }

// encoding returns what was written, or the empty string if a field was out of its bounds.
func (w *writer) encoding() string {
	if w.bad {
		return ""
	}
	return w.out.String()
}

// reader takes each field off the front of rest.
type reader struct {
	rest string
	bad  bool
}

func (r *reader) octet(_, least, most uint8) uint8 {
	n, ok := num.ReadU(r.rest, 1)
	got := uint8(n)
	if !r.take(1, ok && got >= least && got <= most) {
		return 0
	}
	return got
}

func (r *reader) groups(_, most uint64) uint64 {
	n, size, ok := num.ReadV(r.rest)
	if !r.take(size, ok && n <= most) {
		return 0
	}
	return n
}

func (r *reader) text(string) string {
	s, size, ok := num.ReadS(r.rest)
	if !r.take(size, ok) {
		return ""
	}
	return s
}

func (r *reader) token(api.Token) api.Token {
	t, from := api.Token{}, r.rest
	if r.take(len(t), len(from) >= len(t)) {
		copy(t[:], from)
	}
	return t
}

func (r *reader) sound() bool { return !r.bad }

// take drops size bytes, if they fit the field. If not, it drops all: no later field fits either then, since none has fewer than one byte.
func (r *reader) take(size int, fits bool) bool {
	if !fits {
		r.bad = true
		r.rest = ""
		return false
	}
	r.rest = r.rest[size:]
	return true
}

// ended reports whether all fields fitted, and nothing is left behind them.
func (r *reader) ended() bool {
	return !r.bad && r.rest == ""
}
