package frame

import (
	"wapentake/api"
	"wapentake/cmd"
	"wapentake/num"
)

// WriteReply returns the encoding of r, or the empty string if r is not valid.
func WriteReply(r api.Reply) string {
	if !isRightReply(r) {
		return ""
	}
	s := num.U(uint64(r.Kind), 1)
	if r.Kind == api.Malformed {
		return s
	}
	s += num.V(r.Session, r.Seq)
	switch r.Kind {
	case api.NotLeader:
		s += num.U(uint64(r.Leader), 1)
	case api.Answer:
		s += cmd.WriteResult(r.Result)
	}
	return s
}

// isRightReply reports whether r is valid: a field that its Kind does not use is zero.
func isRightReply(r api.Reply) bool {
	switch r.Kind {
	case api.Malformed:
		return r.Session == 0 && r.Seq == 0 && r.Leader == 0 && isNoResult(r.Result)
	case api.Denied, api.Busy, api.Unknown:
		return r.Leader == 0 && isNoResult(r.Result)
	case api.NotLeader:
		return r.Leader <= api.MaxNodes && isNoResult(r.Result)
	case api.Answer:
		return r.Leader == 0
	}
	return false
}

// isNoResult reports whether r is zero. Rows that are empty are as good as none.
func isNoResult(r api.Result) bool {
	return r.Code == 0 && r.N == 0 && r.Value == "" && len(r.Rows) == 0
}

// ReadReply returns the reply whose encoding s is.
func ReadReply(s string) (api.Reply, bool) {
	kind, ok := num.ReadU(s, 1)
	if !ok {
		return api.Reply{}, false
	}
	r, rest := api.Reply{Kind: uint8(kind)}, s[1:]
	if r.Kind != api.Malformed {
		r.Session, r.Seq, rest, ok = readRequest(rest)
	}
	if ok && r.Kind == api.NotLeader {
		r.Leader, rest, ok = readLeader(rest)
	}
	if ok && r.Kind == api.Answer {
		r.Result, ok = cmd.ReadResult(rest)
		rest = ""
	}
	if !ok || rest != "" || !isRightReply(r) {
		return api.Reply{}, false
	}
	return r, true
}

// readRequest returns the Session and the Seq of the request that is replied to, and the bytes behind them.
func readRequest(s string) (session, seq uint64, rest string, ok bool) {
	session, size, ok := num.ReadV(s)
	if !ok {
		return 0, 0, "", false
	}
	rest = s[size:]
	seq, size, ok = num.ReadV(rest)
	if !ok {
		return 0, 0, "", false
	}
	return session, seq, rest[size:], true
}

// readLeader returns the Leader, and the bytes behind it.
func readLeader(s string) (leader uint8, rest string, ok bool) {
	n, ok := num.ReadU(s, 1)
	if !ok {
		return 0, "", false
	}
	return uint8(n), s[1:], true
}
