package cmd

import (
	"math"

	"wapentake/api"
)

// walkCmd visits the fields that the command's Op uses, in the order of the encoding. It returns a command of them alone: a command with anything else in it differs from that, and is not valid.
func walkCmd(w walker, c api.Cmd) api.Cmd {
	used := api.Cmd{}
	used.Op = w.octet(c.Op, api.CSession, api.CAudit)
	used.Session = w.groups(c.Session, math.MaxUint64)
	used.Seq = w.groups(c.Seq, math.MaxUint64)
	switch used.Op {
	case api.CSession, api.CGrant:
		used.TTL = w.groups(c.TTL, math.MaxUint64)
	case api.CPut:
		used.Key = w.text(c.Key)
		used.Value = w.text(c.Value)
		used.Lease = w.groups(c.Lease, math.MaxUint64)
	case api.CDelete, api.CGet:
		used.Key = w.text(c.Key)
	case api.CCas:
		used.Key = w.text(c.Key)
		used.Expect = w.text(c.Expect)
		used.Value = w.text(c.Value)
	case api.CBatch:
		used.Parts = walkParts(w, c.Parts)
	case api.CKeep:
		used.Lease = w.groups(c.Lease, math.MaxUint64)
	case api.CRange:
		used.From = w.text(c.From)
		used.To = w.text(c.To)
		used.Limit = w.octet(c.Limit, 0, math.MaxUint8)
	}
	return used
}

func walkParts(w walker, parts []api.Part) []api.Part {
	// A number that does not fit into a byte must not be cut down to one that is within the bounds.
	count := w.octet(uint8(min(len(parts), math.MaxUint8)), 1, api.MaxParts)
	return walkItems(w, parts, uint64(count), walkPart)
}

func walkPart(w walker, p api.Part) api.Part {
	used := api.Part{}
	used.Op = w.octet(p.Op, api.CPut, api.CDelete)
	used.Key = w.text(p.Key)
	if used.Op == api.CPut {
		used.Value = w.text(p.Value)
	}
	return used
}

// walkOper does for an operator command what walkCmd does for a command.
func walkOper(w walker, o api.Oper) api.Oper {
	used := api.Oper{}
	used.Op = w.octet(o.Op, api.OCreate, api.OLead)
	switch used.Op {
	case api.OCreate:
		used.Slot = walkSlot(w, o.Slot)
		used.Keys = walkAmount(w, o.Keys)
		used.Bytes = walkAmount(w, o.Bytes)
		used.Rate = walkAmount(w, o.Rate)
		used.Burst = walkAmount(w, o.Burst)
	case api.OPrincipal:
		used.Slot = walkSlot(w, o.Slot)
		used.Token = w.token(o.Token)
		used.Role = w.octet(o.Role, api.Reader, api.Admin)
	case api.ODrop:
		used.Token = w.token(o.Token)
	case api.ORemove:
		used.Slot = walkSlot(w, o.Slot)
	case api.OAdd, api.OOut, api.OLead:
		used.Node = w.octet(o.Node, 1, api.MaxNodes)
	}
	return used
}

func walkSlot(w walker, slot uint8) uint8 {
	return w.octet(slot, 0, api.Slots-1)
}

func walkAmount(w walker, n int) int {
	// A negative amount becomes a number far above the bound.
	return int(w.groups(uint64(n), math.MaxInt32))
}

func walkResult(w walker, r api.Result) api.Result {
	used := api.Result{}
	used.Code = w.octet(r.Code, 0, math.MaxUint8)
	used.N = w.groups(r.N, math.MaxUint64)
	used.Value = w.text(r.Value)
	count := w.groups(uint64(len(r.Rows)), math.MaxUint64)
	used.Rows = walkItems(w, r.Rows, count, walkRow)
	return used
}

func walkRow(w walker, r api.Row) api.Row {
	used := api.Row{}
	used.Key = w.text(r.Key)
	used.Value = w.text(r.Value)
	used.Version = w.groups(r.Version, math.MaxUint64)
	return used
}

// walkItems visits count items: those given, or empty ones where a reader has none yet.
func walkItems[T any](w walker, items []T, count uint64, walk func(walker, T) T) []T {
	var used []T
	// A count that was read may be any number: the items end where the bytes do.
	for i := uint64(0); i < count && w.sound(); i++ {
		var item T
		if i < uint64(len(items)) {
			item = items[i]
		}
		used = append(used, walk(w, item))
	}
	return used
}
