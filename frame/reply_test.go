package frame_test

import (
	"math"
	"math/rand"
	"reflect"
	"slices"
	"strings"
	"testing"

	"wapentake/api"
	"wapentake/cmd"
	"wapentake/frame"
)

var replies = kind[api.Reply]{"a reply", frame.WriteReply, frame.ReadReply, replyByHand}

// replyUses is the chapter's list of the fields that a reply's Kind uses.
var replyUses = map[uint8][]string{
	1: {},
	2: {"Session", "Seq"},
	3: {"Session", "Seq", "Leader"},
	4: {"Session", "Seq"},
	5: {"Session", "Seq"},
	6: {"Session", "Seq", "Result"},
}

// replyByHand returns the encoding of a reply, or the empty string, by the chapter's words.
func replyByHand(r api.Reply) string {
	uses, is := replyUses[r.Kind]
	if !is || r.Leader > 5 {
		return ""
	}
	fields := []struct {
		name     string
		isZero   bool
		encoding string
	}{
		{"Session", r.Session == 0, digits(r.Session)},
		{"Seq", r.Seq == 0, digits(r.Seq)},
		{"Leader", r.Leader == 0, octet(r.Leader)},
		{"Result", isZero(r.Result), cmd.WriteResult(r.Result)},
	}
	s := octet(r.Kind)
	for _, f := range fields {
		if slices.Contains(uses, f.name) {
			s += f.encoding
		} else if !f.isZero {
			return ""
		}
	}
	return s
}

// ends returns where the groups of a number that s begins with may end, by the chapter's words: all places where they do.
func ends(s string) []int {
	var all []int
	n := uint64(0)
	for i := range min(len(s), 10) {
		n = n*128 + uint64(s[i]%128)
		if s[i] < 128 && digits(n) == s[:i+1] {
			all = append(all, i+1)
		}
	}
	return all
}

// waysOfAReply returns in how many ways s can be cut into the pieces of a reply's encoding.
func waysOfAReply(s string) int {
	if s == "" || s[0] == 0 || s[0] > 6 {
		return 0
	}
	if s[0] == 1 {
		return count(s == "\x01")
	}
	n := 0
	for _, session := range ends(s[1:]) {
		rest := s[1+session:]
		for _, seq := range ends(rest) {
			rest := rest[seq:]
			switch s[0] {
			case 3:
				n += count(len(rest) == 1 && rest[0] <= 5)
			case 6:
				_, is := cmd.ReadResult(rest)
				n += count(is)
			default:
				n += count(rest == "")
			}
		}
	}
	return n
}

func count(is bool) int {
	if is {
		return 1
	}
	return 0
}

// isReplyAsItCanBeCut demands of any bytes that they are read if they can be cut into the pieces of a reply's encoding, and that they can be so in one way only; it reports whether they can.
func isReplyAsItCanBeCut(t *testing.T, s string) bool {
	t.Helper()
	is, n := replies.isReadAsItWasWritten(t, s), waysOfAReply(s)
	if n > 1 || is != (n == 1) {
		t.Fatalf("%x can be cut in %d ways, and is read: %v", s, n, is)
	}
	return is
}

// someResults are results with everything at the edges in each field.
func someResults() []api.Result {
	row := api.Row{Key: "k", Value: "v", Version: 7}
	all := []api.Result{{}, {Rows: []api.Row{}}, {Code: 255}, {Code: api.RConflict, N: 300, Value: "v", Rows: []api.Row{row, {}, row}}}
	for _, n := range numbers {
		all = append(all, api.Result{N: n}, api.Result{Rows: []api.Row{{Version: n}}})
	}
	for _, s := range texts() {
		all = append(all, api.Result{Value: s}, api.Result{Rows: []api.Row{{Key: s}, {Value: s}}}, api.Result{Code: 3, Value: s, Rows: []api.Row{{Key: s, Value: s, Version: 1}}})
	}
	for _, n := range []int{1, 2, 16, 127, 128, 129, 256, 1000} {
		all = append(all, api.Result{Rows: make([]api.Row, n)}, api.Result{Code: 1, N: 1, Rows: slices.Repeat([]api.Row{row}, n)})
	}
	return all
}

// validReplies are those of each Kind, with everything at the edges in each field.
func validReplies() []api.Reply {
	all := []api.Reply{{Kind: 1}}
	for _, session := range numbers {
		for _, seq := range numbers {
			for kind := uint8(2); kind <= 6; kind++ {
				all = append(all, api.Reply{Kind: kind, Session: session, Seq: seq})
			}
			for leader := uint8(1); leader <= 5; leader++ {
				all = append(all, api.Reply{Kind: 3, Session: session, Seq: seq, Leader: leader})
			}
			all = append(all, api.Reply{Kind: 6, Session: session, Seq: seq, Result: api.Result{Code: 2, N: 1, Value: "v"}})
		}
	}
	for _, r := range someResults() {
		all = append(all, api.Reply{Kind: 6, Result: r}, api.Reply{Kind: 6, Session: 1, Seq: 128, Result: r})
	}
	return all
}

func TestReplyExamples(t *testing.T) {
	for _, x := range []struct {
		r api.Reply
		s string
	}{
		{api.Reply{Kind: api.Malformed}, "\x01"},
		{api.Reply{Kind: api.Denied, Session: 1, Seq: 2}, "\x02\x01\x02"},
		{api.Reply{Kind: api.Denied}, "\x02\x00\x00"},
		{api.Reply{Kind: api.NotLeader, Session: 1, Seq: 128, Leader: 3}, "\x03\x01\x81\x00\x03"},
		{api.Reply{Kind: api.NotLeader}, "\x03\x00\x00\x00"},
		{api.Reply{Kind: api.NotLeader, Leader: 5}, "\x03\x00\x00\x05"},
		{api.Reply{Kind: api.Busy, Session: 16384}, "\x04\x81\x80\x00\x00"},
		{api.Reply{Kind: api.Unknown, Seq: 127}, "\x05\x00\x7f"},
		{api.Reply{Kind: api.Unknown, Session: math.MaxUint64, Seq: math.MaxUint64}, "\x05\x81" + ffs + "\x7f\x81" + ffs + "\x7f"},
		{api.Reply{Kind: api.Answer, Result: api.Result{Code: api.RMissing}}, "\x06\x00\x00\x01\x00\x00\x00"},
		{api.Reply{Kind: api.Answer}, "\x06\x00\x00\x00\x00\x00\x00"},
		{api.Reply{Kind: api.Answer, Session: 1, Seq: 2, Result: api.Result{N: 5, Value: "x", Rows: []api.Row{{Key: "k", Value: "v", Version: 7}}}}, "\x06\x01\x02\x00\x05\x01x\x01\x01k\x01v\x07"},
	} {
		replies.isEncoding(t, x.r, x.s)
	}
	for _, r := range []api.Reply{{}, {Kind: api.Busy, Leader: 1}, {Kind: api.Malformed, Seq: 1}, {Kind: 7}, {Kind: api.NotLeader, Leader: 6}} {
		if s := frame.WriteReply(r); s != "" {
			t.Errorf("%v is written as %x", r, s)
		}
	}
}

func TestRepliesAtTheEdges(t *testing.T) {
	for _, r := range validReplies() {
		if !replies.isAsByHand(t, r) {
			t.Fatalf("%.300v is not valid", r)
		}
	}
}

// TestEveryKindWithAnyFields: a reply of every Kind, with something in any set of fields.
func TestEveryKindWithAnyFields(t *testing.T) {
	for kind := range 256 {
		for set := range 1 << 7 {
			has := func(bit int) bool { return set>>bit&1 == 1 }
			r := api.Reply{Kind: uint8(kind)}
			if has(0) {
				r.Session = 1 << 63
			}
			if has(1) {
				r.Seq = 128
			}
			if has(2) {
				r.Leader = uint8(set%5 + 1)
			}
			if has(3) {
				r.Result.Code = 1
			}
			if has(4) {
				r.Result.N = 1 << 32
			}
			if has(5) {
				r.Result.Value = "\x00"
			}
			if has(6) {
				r.Result.Rows = make([]api.Row, 1)
			}
			valid := map[int]int{1: 0, 2: 3, 3: 7, 4: 3, 5: 3, 6: 1 | 2 | 8 | 16 | 32 | 64}
			may, is := valid[kind]
			if got := replies.isAsByHand(t, r); got != (is && set&^may == 0) {
				t.Fatalf("%v is valid: %v", r, got)
			}
		}
	}
}

func TestAFieldThatAKindDoesNotUse(t *testing.T) {
	results := withOneField[api.Result]()
	for kind := range uint8(8) {
		uses, is := replyUses[kind]
		demand := func(r api.Reply, field string) {
			t.Helper()
			valid := is && slices.Contains(uses, field) && r.Leader <= 5
			if got := replies.isAsByHand(t, r); got != valid {
				t.Fatalf("%.300v is valid: %v", r, got)
			}
		}
		for bit := range 64 {
			demand(api.Reply{Kind: kind, Session: 1 << bit}, "Session")
			demand(api.Reply{Kind: kind, Seq: 1 << bit}, "Seq")
		}
		for leader := 1; leader < 256; leader++ {
			demand(api.Reply{Kind: kind, Leader: uint8(leader)}, "Leader")
		}
		for _, result := range results {
			demand(api.Reply{Kind: kind, Result: result}, "Result")
		}
	}
}

func TestEveryLeader(t *testing.T) {
	for leader := range 256 {
		for kind := range uint8(8) {
			valid := kind >= 1 && kind <= 6 && (leader == 0 || kind == 3 && leader <= 5)
			if is := replies.isAsByHand(t, api.Reply{Kind: kind, Leader: uint8(leader)}); is != valid {
				t.Errorf("Kind %d with Leader %d: %v", kind, leader, is)
			}
		}
		if is := isReplyAsItCanBeCut(t, "\x03\x01\x81\x00"+octet(uint8(leader))); is != (leader <= 5) {
			t.Errorf("Leader %d is read: %v", leader, is)
		}
	}
}

// TestEmptyRowsAreZero: an empty slice is as good as nil, whatever room it has.
func TestEmptyRowsAreZero(t *testing.T) {
	for _, rows := range [][]api.Row{nil, {}, slices.Repeat([]api.Row{{Key: "k"}}, 3)[:0]} {
		for kind, s := range map[uint8]string{1: "\x01", 2: "\x02\x00\x00", 3: "\x03\x00\x00\x00", 4: "\x04\x00\x00", 5: "\x05\x00\x00", 6: "\x06\x00\x00\x00\x00\x00\x00"} {
			replies.isEncoding(t, api.Reply{Kind: kind, Result: api.Result{Rows: rows}}, s)
		}
	}
}

// TestRepliesAreShort: all that are no Answer have at most 22 bytes, and one has so many.
func TestRepliesAreShort(t *testing.T) {
	longest := 0
	for _, r := range validReplies() {
		if r.Kind != api.Answer {
			longest = max(longest, len(frame.WriteReply(r)))
		}
	}
	if longest != 22 {
		t.Errorf("the longest one has %d bytes", longest)
	}
	// No bytes beyond are read as one either.
	for _, kind := range []uint8{1, 2, 3, 4, 5} {
		for _, more := range []string{"\x00", "\x80", "\x01", "\xff"} {
			for n := 22; n < 100; n++ {
				replies.isNothing(t, octet(kind)+strings.Repeat(more, n))
			}
		}
	}
}

func TestRepliesStandAlone(t *testing.T) {
	t.Parallel()
	all := validReplies()
	replies.noneBeginsWithAnother(t, all)
	replies.isNothing(t, "")
	for _, r := range all {
		replies.standsAlone(t, frame.WriteReply(r))
	}
}

func TestBytesThatAreNoGroupsOfReplies(t *testing.T) {
	for _, bad := range notGroups {
		for _, more := range []string{"", "\x00", "\x00\x00", "\x01\x00\x00\x00\x00", "\x00\x01\x00\x00\x00\x00"} {
			for kind := range uint8(8) {
				replies.isNothing(t, octet(kind)+bad+more)
				replies.isNothing(t, octet(kind)+"\x01"+bad+more)
			}
			replies.isNothing(t, "\x06\x01\x02\x00"+bad+more)
			replies.isNothing(t, "\x06\x01\x02\x00\x00"+bad+more)
			replies.isNothing(t, "\x06\x01\x02\x00\x00\x00"+bad+more)
		}
	}
	// The same bytes are read without the leading zero digit.
	for _, x := range [][2]string{{"\x02", "\x01\x02"}, {"\x02\x01", "\x02"}, {"\x03", "\x01\x02\x05"}, {"\x03\x01", "\x02\x05"}, {"\x06", "\x00\x00\x01\x00\x00\x00"}, {"\x06\x00\x00\x01", "\x00\x00\x00"}, {"\x06\x00\x00\x01\x00\x00", "\x00"}} {
		if !isReplyAsItCanBeCut(t, x[0]+x[1]) {
			t.Errorf("%x is not read", x[0]+x[1])
		}
		replies.isNothing(t, x[0]+"\x80"+x[1])
	}
}

// TestAKindWithWhatAnotherOneUses: what stands behind the Kind of each reply, behind every other one.
func TestAKindWithWhatAnotherOneUses(t *testing.T) {
	t.Parallel()
	for _, s := range replies.shortEncodings(validReplies()) {
		for n := range 256 {
			isReplyAsItCanBeCut(t, octet(uint8(n))+s[1:])
		}
	}
}

func TestEveryByteInEveryPlaceOfReplies(t *testing.T) {
	for _, s := range []string{"\x01", "\x02\x01\x02", "\x03\x01\x81\x00\x03", "\x03\x81\x00\x02\x00", "\x04\x00\x00", "\x05\x81\x80\x00\x7f", "\x06\x00\x00\x01\x00\x00\x00", "\x06\x01\x02\x00\x05\x01x\x01\x01k\x01v\x07"} {
		for at := range s {
			for n := range 256 {
				isReplyAsItCanBeCut(t, s[:at]+octet(uint8(n))+s[at+1:])
			}
		}
	}
}

func TestAllShortBytesAsReplies(t *testing.T) {
	t.Parallel()
	for _, x := range []struct {
		front, letters string
		most, least    int
	}{
		{"", "\x00\x01\x02\x03\x04\x05\x06\x07\x80\x81\xff", 5, 1000},
		{"", "\x00\x02\x05\x06", 8, 200},
		{"\x03", "\x00\x01\x05\x06\x7f\x80\x81\xff", 5, 1000},
		{"\x06\x00\x00", "\x00\x01\x02\x80", 8, 500},
		{"\x06", "\x00\x01", 15, 500},
	} {
		read := everyShort(x.letters, x.most, func(s string) bool { return isReplyAsItCanBeCut(t, x.front+s) })
		if read < x.least {
			t.Errorf("behind %x only %d are read", x.front, read)
		}
	}
}

func TestBentReplies(t *testing.T) {
	t.Parallel()
	all := replies.shortEncodings(validReplies())
	random := rand.New(rand.NewSource(6))
	was := 0
	for range 200000 {
		was += count(isReplyAsItCanBeCut(t, bent(random, all[random.Intn(len(all))])))
	}
	if was < 5000 {
		t.Errorf("of the bent encodings only %d are some", was)
	}
}

func TestRepliesShareNoMemory(t *testing.T) {
	for _, r := range validReplies() {
		s := frame.WriteReply(r)
		a, _ := frame.ReadReply(s)
		b, _ := frame.ReadReply(s)
		if sharesMemory(reflect.ValueOf(r), s) || sharesMemory(reflect.ValueOf(a), s) {
			t.Fatalf("%.200x shares memory with what it encodes, or with what is read", s)
		}
		if len(a.Result.Rows) > 0 {
			clear(a.Result.Rows[:cap(a.Result.Rows)])
			if !equal(b, r) {
				t.Fatalf("a change of one reply changed another one: %.300v", b)
			}
		}
	}
}

func TestRepliesAreLeftAsTheyAre(t *testing.T) {
	spare := slices.Repeat([]api.Row{{Key: "k", Value: strings.Repeat("v", 70), Version: 1}}, 5)
	was := slices.Clone(spare)
	for n := range 5 {
		for kind := range uint8(8) {
			frame.WriteReply(api.Reply{Kind: kind, Result: api.Result{Rows: spare[:n]}})
			if !slices.Equal(spare, was) {
				t.Fatalf("of %d Rows: they became %v", n, spare)
			}
		}
	}
}

func FuzzReadReply(f *testing.F) {
	for _, r := range someResults() {
		if s := frame.WriteReply(api.Reply{Kind: 6, Session: 1, Seq: 128, Result: r}); len(s) < 150 {
			f.Add(s)
		}
	}
	for _, s := range []string{"\x01", "\x02\x01\x02", "\x03\x01\x81\x00\x03", "\x04\x00\x00", "\x05\x81" + ffs + "\x7f\x81" + ffs + "\x7f"} {
		f.Add(s)
	}
	f.Fuzz(func(t *testing.T, s string) {
		isReplyAsItCanBeCut(t, s)
	})
}
