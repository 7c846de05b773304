package frame_test

import (
	"math"
	"math/rand"
	"reflect"
	"slices"
	"strings"
	"testing"

	"wapentake/api"
	"wapentake/cmd"
	"wapentake/frame"
)

var frames = kind[api.Frame]{"a frame", frame.Write, frame.Read, frameByHand}

var (
	token    = api.Token{'1', '2', '3', '4', '5', '6', '7', '8'}
	operator = api.Token([]byte("operator"))
	get      = api.Cmd{Op: api.CGet, Key: "k"}
	lead     = api.Oper{Op: api.OLead, Node: 2}
)

// frameByHand returns the encoding of a frame, or the empty string, by the chapter's words.
func frameByHand(f api.Frame) string {
	command := ""
	if f.Kind == 1 && isZero(f.Oper) {
		command = cmd.Write(f.Cmd)
	}
	if f.Kind == 2 && isZero(f.Cmd) {
		command = cmd.WriteOper(f.Oper)
	}
	if command == "" {
		return ""
	}
	return octet(f.Kind) + string(f.Token[:]) + command
}

// isFrameByHand reports whether s is the encoding of a frame, by the chapter's words.
func isFrameByHand(s string) bool {
	if len(s) < 9 {
		return false
	}
	_, is := cmd.Read(s[9:])
	_, isOpers := cmd.ReadOper(s[9:])
	return s[0] == 1 && is || s[0] == 2 && isOpers
}

// validCmds are some of each Op, with everything at the edges.
func validCmds() []api.Cmd {
	put, del := api.Part{Op: api.CPut, Key: "k", Value: "v"}, api.Part{Op: api.CDelete, Key: "k"}
	var all []api.Cmd
	for _, n := range numbers {
		all = append(all,
			api.Cmd{Op: api.CSession, TTL: n}, api.Cmd{Op: api.CGrant, Session: n, Seq: 1, TTL: 5}, api.Cmd{Op: api.CKeep, Seq: n, Lease: n},
			api.Cmd{Op: api.CPut, Session: n, Seq: n, Key: "k", Value: "v", Lease: n}, api.Cmd{Op: api.CExport, Session: n}, api.Cmd{Op: api.CAudit, Seq: n})
	}
	for _, s := range texts() {
		all = append(all,
			api.Cmd{Op: api.CPut, Key: s}, api.Cmd{Op: api.CPut, Value: s}, api.Cmd{Op: api.CDelete, Session: 1, Seq: 2, Key: s},
			api.Cmd{Op: api.CCas, Key: s}, api.Cmd{Op: api.CCas, Expect: s}, api.Cmd{Op: api.CCas, Key: "k", Expect: s, Value: s},
			api.Cmd{Op: api.CGet, Key: s}, api.Cmd{Op: api.CRange, From: s}, api.Cmd{Op: api.CRange, From: "a", To: s, Limit: 9},
			api.Cmd{Op: api.CBatch, Parts: []api.Part{{Op: api.CPut, Key: s}, {Op: api.CPut, Value: s}, {Op: api.CDelete, Key: s}}})
	}
	for n := 1; n <= 4; n++ {
		all = append(all, api.Cmd{Op: api.CBatch, Session: 1, Seq: 1, Parts: slices.Repeat([]api.Part{put}, n)}, api.Cmd{Op: api.CBatch, Parts: slices.Repeat([]api.Part{del}, n)})
	}
	return append(all, api.Cmd{Op: api.CRange, Limit: 255}, api.Cmd{Op: api.CGet, Key: "k", Parts: []api.Part{}})
}

// wrongCmds are each not valid.
func wrongCmds() []api.Cmd {
	put := api.Part{Op: api.CPut, Key: "k", Value: "v"}
	all := []api.Cmd{
		{}, {Session: 1}, {Key: "k"}, {Op: 12}, {Op: 255, Key: "k"}, {Op: api.CGet, Value: "v"}, {Op: api.CGet, Key: "k", Parts: []api.Part{put}},
		{Op: api.CSession, Lease: 1}, {Op: api.CPut, TTL: 1}, {Op: api.CDelete, Expect: "v"}, {Op: api.CCas, Lease: 1}, {Op: api.CGrant, Lease: 1},
		{Op: api.CKeep, TTL: 1}, {Op: api.CRange, Key: "k"}, {Op: api.CExport, Limit: 1}, {Op: api.CAudit, From: "a"},
		{Op: api.CBatch}, {Op: api.CBatch, Parts: []api.Part{}}, {Op: api.CBatch, Key: "k", Parts: []api.Part{put}},
		{Op: api.CBatch, Parts: slices.Repeat([]api.Part{put}, 5)}, {Op: api.CBatch, Parts: slices.Repeat([]api.Part{put}, 257)},
		{Op: api.CBatch, Parts: []api.Part{{}}}, {Op: api.CBatch, Parts: []api.Part{put, {Op: api.CCas}}}, {Op: api.CBatch, Parts: []api.Part{{Op: api.CDelete, Value: "v"}}},
	}
	return all
}

// validOpers are some of each Op, with everything at the edges.
func validOpers() []api.Oper {
	all := []api.Oper{{Op: api.OCreate}}
	for slot := range uint8(4) {
		all = append(all, api.Oper{Op: api.OCreate, Slot: slot, Keys: 1, Bytes: 128, Rate: 3, Burst: math.MaxInt32}, api.Oper{Op: api.ORemove, Slot: slot})
		for role := uint8(1); role <= 3; role++ {
			all = append(all, api.Oper{Op: api.OPrincipal, Slot: slot, Token: token, Role: role}, api.Oper{Op: api.OPrincipal, Slot: slot, Role: role})
		}
	}
	for _, n := range []int{1, 127, 128, 16384, math.MaxInt32} {
		all = append(all, api.Oper{Op: api.OCreate, Keys: n}, api.Oper{Op: api.OCreate, Bytes: n}, api.Oper{Op: api.OCreate, Rate: n}, api.Oper{Op: api.OCreate, Burst: n})
	}
	for node := uint8(1); node <= 5; node++ {
		all = append(all, api.Oper{Op: api.OAdd, Node: node}, api.Oper{Op: api.OOut, Node: node}, api.Oper{Op: api.OLead, Node: node})
	}
	return append(all, api.Oper{Op: api.ODrop}, api.Oper{Op: api.ODrop, Token: token}, api.Oper{Op: api.ODrop, Token: operator})
}

// wrongOpers are each not valid.
func wrongOpers() []api.Oper {
	return []api.Oper{
		{}, {Node: 1}, {Op: 8}, {Op: 255, Node: 1}, {Op: api.OCreate, Slot: 4}, {Op: api.OCreate, Keys: -1}, {Op: api.OCreate, Bytes: math.MaxInt32 + 1},
		{Op: api.OCreate, Rate: math.MinInt64}, {Op: api.OCreate, Burst: math.MaxInt64}, {Op: api.OCreate, Node: 1}, {Op: api.OCreate, Token: token},
		{Op: api.OPrincipal, Token: token}, {Op: api.OPrincipal, Role: 4}, {Op: api.OPrincipal, Slot: 255, Role: 1}, {Op: api.OPrincipal, Role: 1, Keys: 1},
		{Op: api.ODrop, Role: 1}, {Op: api.ORemove, Slot: 4}, {Op: api.ORemove, Burst: 1}, {Op: api.OAdd}, {Op: api.OAdd, Node: 6}, {Op: api.OOut, Node: 255}, {Op: api.OLead, Node: 1, Slot: 1},
	}
}

// validFrames are those of all valid commands and operator commands, by several tokens.
func validFrames() []api.Frame {
	var all []api.Frame
	for _, by := range []api.Token{token, {}, operator, api.Token([]byte(ffs))} {
		for _, c := range validCmds() {
			all = append(all, api.Frame{Kind: api.FData, Token: by, Cmd: c})
		}
		for _, o := range validOpers() {
			all = append(all, api.Frame{Kind: api.FOper, Token: by, Oper: o})
		}
	}
	return all
}

// wrongFrames are each not valid: by the Kind, by the command, or by a second one.
func wrongFrames() []api.Frame {
	all := []api.Frame{{}, {Kind: 1}, {Kind: 2}, {Token: token}, {Kind: 1, Token: token, Cmd: get, Oper: lead}, {Kind: 2, Token: token, Cmd: get, Oper: lead}}
	for _, n := range []uint8{0, 3, 4, 128, 129, 130, 255} {
		all = append(all, api.Frame{Kind: n, Token: token, Cmd: get}, api.Frame{Kind: n, Token: token, Oper: lead}, api.Frame{Kind: n})
	}
	for _, c := range wrongCmds() {
		all = append(all, api.Frame{Kind: 1, Token: token, Cmd: c})
	}
	for _, o := range wrongOpers() {
		all = append(all, api.Frame{Kind: 2, Token: operator, Oper: o})
	}
	return all
}

func TestExamples(t *testing.T) {
	frames.isEncoding(t, api.Frame{Kind: api.FData, Token: token, Cmd: get}, "\x0112345678\x08\x00\x00\x01k")
	frames.isEncoding(t, api.Frame{Kind: api.FOper, Token: operator, Oper: lead}, "\x02operator\x07\x02")
	frames.isEncoding(t, api.Frame{Kind: api.FData, Cmd: api.Cmd{Op: api.CPut, Session: 1, Seq: 2, Key: "k", Value: "v", Lease: 3}}, "\x01\x00\x00\x00\x00\x00\x00\x00\x00\x02\x01\x02\x01k\x01v\x03")
	frames.isEncoding(t, api.Frame{Kind: api.FOper, Token: api.Token([]byte(ffs)), Oper: api.Oper{Op: api.OPrincipal, Slot: 2, Token: token, Role: 3}}, "\x02"+ffs+"\x02\x0212345678\x03")
	for _, f := range []api.Frame{{}, {Kind: api.FData, Cmd: api.Cmd{Op: api.CBatch}}, {Kind: 3, Cmd: get}, {Kind: 3, Oper: lead}} {
		if frames.isAsByHand(t, f) {
			t.Errorf("%v is valid", f)
		}
	}
}

func TestTheOperator(t *testing.T) {
	if got := frame.Operator(); string(got[:]) != "operator" || got != operator {
		t.Errorf("%x", got)
	}
	if got := frame.Operator(); got != frame.Operator() {
		t.Errorf("the operator's token changed")
	}
}

func TestFramesAtTheEdges(t *testing.T) {
	for _, f := range validFrames() {
		if !frames.isAsByHand(t, f) {
			t.Fatalf("%.300v is not valid", f)
		}
	}
	for _, f := range wrongFrames() {
		if frames.isAsByHand(t, f) {
			t.Fatalf("%.300v is valid", f)
		}
	}
}

func TestEveryKindOfFrames(t *testing.T) {
	for n := range 256 {
		for _, c := range append(validCmds(), wrongCmds()...) {
			valid := n == 1 && cmd.Write(c) != ""
			if is := frames.isAsByHand(t, api.Frame{Kind: uint8(n), Token: token, Cmd: c}); is != valid {
				t.Fatalf("Kind %d with %.300v: %v", n, c, is)
			}
		}
		for _, o := range append(validOpers(), wrongOpers()...) {
			valid := n == 2 && cmd.WriteOper(o) != ""
			if is := frames.isAsByHand(t, api.Frame{Kind: uint8(n), Token: token, Oper: o}); is != valid {
				t.Fatalf("Kind %d with %v: %v", n, o, is)
			}
		}
	}
}

func TestTheOtherKindsFieldIsNotZero(t *testing.T) {
	for _, o := range append(withOneField[api.Oper](), append(validOpers(), wrongOpers()[1:]...)...) {
		for _, c := range []api.Cmd{get, {Op: api.CExport}, {Op: api.CPut, Session: 1, Seq: 2, Key: "k", Value: "v", Lease: 3}, {}} {
			if frames.isAsByHand(t, api.Frame{Kind: 1, Token: token, Cmd: c, Oper: o}) {
				t.Fatalf("%v is valid beside %v", o, c)
			}
		}
	}
	for _, c := range append(withOneField[api.Cmd](), append(validCmds(), wrongCmds()[1:]...)...) {
		for _, o := range []api.Oper{lead, {Op: api.OCreate}, {Op: api.ODrop, Token: token}, {}} {
			if frames.isAsByHand(t, api.Frame{Kind: 2, Token: operator, Cmd: c, Oper: o}) {
				t.Fatalf("%.300v is valid beside %v", c, o)
			}
		}
	}
}

// TestEmptyPartsAreZero: an empty slice is as good as nil, whatever room it has.
func TestEmptyPartsAreZero(t *testing.T) {
	for _, parts := range [][]api.Part{nil, {}, slices.Repeat([]api.Part{{Op: api.CPut}}, 3)[:0]} {
		frames.isEncoding(t, api.Frame{Kind: 2, Token: operator, Cmd: api.Cmd{Parts: parts}, Oper: lead}, "\x02operator\x07\x02")
		frames.isEncoding(t, api.Frame{Kind: 1, Token: token, Cmd: api.Cmd{Op: api.CGet, Key: "k", Parts: parts}}, "\x0112345678\x08\x00\x00\x01k")
	}
}

func TestTokensOfAnyBytes(t *testing.T) {
	for at := range len(token) {
		for n := range 256 {
			for _, by := range []api.Token{{}, token, operator, api.Token([]byte(ffs))} {
				by[at] = byte(n)
				frames.isEncoding(t, api.Frame{Kind: 1, Token: by, Cmd: get}, "\x01"+string(by[:])+"\x08\x00\x00\x01k")
				frames.isEncoding(t, api.Frame{Kind: 2, Token: by, Oper: lead}, "\x02"+string(by[:])+"\x07\x02")
			}
		}
	}
}

// usedStrings are the strings that the Op of c uses, those of Parts too.
func usedStrings(c *api.Cmd) []*string {
	switch c.Op {
	case api.CPut:
		return []*string{&c.Key, &c.Value}
	case api.CDelete, api.CGet:
		return []*string{&c.Key}
	case api.CCas:
		return []*string{&c.Key, &c.Expect, &c.Value}
	case api.CRange:
		return []*string{&c.From, &c.To}
	case api.CBatch:
		var all []*string
		for i := range c.Parts {
			all = append(all, &c.Parts[i].Key)
			if c.Parts[i].Op == api.CPut {
				all = append(all, &c.Parts[i].Value)
			}
		}
		return all
	}
	return nil
}

// withUsed returns f with s in those strings that its command's Op uses that are in set.
func withUsed(f api.Frame, s string, set uint) api.Frame {
	f.Cmd.Parts = slices.Clone(f.Cmd.Parts)
	for i, text := range usedStrings(&f.Cmd) {
		if set>>i&1 == 1 {
			*text = s
		}
	}
	return f
}

// TestLengthsAreNoMatter: whether a frame has an encoding hangs neither on the lengths of its command's strings nor on what is in them.
func TestLengthsAreNoMatter(t *testing.T) {
	t.Parallel()
	var some []api.Frame
	for _, f := range append(validFrames(), wrongFrames()...) {
		if len(frame.Write(f)) < 60 && len(f.Cmd.Parts) < 6 && (f.Token == token || f.Token == operator && f.Kind == 2) {
			some = append(some, f)
		}
	}
	for _, c := range []api.Cmd{get, {Op: api.CCas, Key: "k", Expect: "a", Value: "b"}, {Op: api.CBatch, Parts: []api.Part{{Op: api.CPut}, {Op: api.CDelete}}}} {
		some = append(some, api.Frame{Kind: 1, Cmd: c, Oper: lead}, api.Frame{Kind: 2, Cmd: c, Oper: lead}, api.Frame{Kind: 2, Cmd: c})
	}
	for _, f := range some {
		valid := frame.Write(f) != ""
		all := uint(1)<<len(usedStrings(&f.Cmd)) - 1
		for _, s := range texts() {
			sets := []uint{all}
			for bit := uint(1); bit < all && len(s) < 1<<16; bit <<= 1 {
				sets = append(sets, bit)
			}
			for _, set := range sets {
				if is := frames.isAsByHand(t, withUsed(f, s, set)); is != valid {
					t.Fatalf("%.300v is valid: %v, but with strings of %d bytes: %v", f, valid, len(s), is)
				}
			}
		}
	}
}

func TestFewerThanNineBytes(t *testing.T) {
	t.Parallel()
	frames.isNothing(t, "")
	for n := range 9 {
		for first := range 256 {
			for _, rest := range []string{"operator", "12345678", "\x08\x00\x00\x01k\x00\x00\x00", "\x07\x02\x07\x02\x07\x02\x07\x02"} {
				frames.isNothing(t, (octet(uint8(first)) + rest)[:n])
				// A head alone is no frame either.
				frames.isNothing(t, octet(uint8(first))+rest)
			}
		}
	}
	everyShort("\x00\x01\x02\x07\x08\xff", 7, func(s string) bool {
		frames.isNothing(t, s)
		return false
	})
	// A command of its own, without the head.
	for _, c := range validCmds() {
		if s := cmd.Write(c); len(s) < 9 {
			frames.isNothing(t, s)
		}
	}
}

func TestACommandBehindTheOtherKind(t *testing.T) {
	t.Parallel()
	var commands, opers []string
	for _, c := range validCmds() {
		commands = append(commands, cmd.Write(c))
	}
	for _, o := range validOpers() {
		opers = append(opers, cmd.WriteOper(o))
	}
	for _, s := range append(commands, opers...) {
		for n := range 256 {
			s := octet(uint8(n)) + "12345678" + s
			if is := frames.isReadAsItWasWritten(t, s); is != isFrameByHand(s) {
				t.Fatalf("%.200x is read: %v", s, is)
			}
		}
	}
	for _, s := range []string{"\x02operator\x08\x00\x00\x01k", "\x02operator\x0a\x00\x00", "\x02operator\x01\x00\x00\x00", "\x0112345678\x07\x02", "\x0112345678\x04\x02", "\x0112345678\x0312345678"} {
		frames.isNothing(t, s)
	}
	// These bytes are a command and an operator command: the Kind tells which.
	twofold := "\x02\x01\x02\x03key\x02v1\x01"
	frames.isEncoding(t, api.Frame{Kind: 1, Token: token, Cmd: api.Cmd{Op: api.CPut, Session: 1, Seq: 2, Key: "key", Value: "v1", Lease: 1}}, "\x0112345678"+twofold)
	frames.isEncoding(t, api.Frame{Kind: 2, Token: token, Oper: api.Oper{Op: api.OPrincipal, Slot: 1, Token: api.Token([]byte("\x02\x03key\x02v1")), Role: 1}}, "\x0212345678"+twofold)
}

func TestBytesThatAreNoGroups(t *testing.T) {
	for _, bad := range notGroups {
		for _, more := range []string{"", "\x00", "\x01k", "\x00\x00", "\x00\x00\x00\x00"} {
			for _, s := range []string{
				"\x08" + bad + "\x00\x01k", "\x08\x00" + bad + "\x01k", "\x08\x00\x00" + bad + "k", // Session, Seq, the length of Key
				"\x01\x00\x00" + bad, "\x02\x00\x00\x01k" + bad + "v\x00", "\x02\x00\x00\x01k\x01v" + bad, "\x05\x00\x00\x01\x02" + bad + "k",
			} {
				frames.isNothing(t, "\x0112345678"+s+more)
			}
			for _, s := range []string{"\x01\x00" + bad + "\x00\x00\x00", "\x01\x00\x00" + bad + "\x00\x00", "\x01\x00\x00\x00" + bad + "\x00", "\x01\x00\x00\x00\x00" + bad} {
				frames.isNothing(t, "\x02operator"+s+more)
			}
		}
	}
	// The same bytes are read without the leading zero digit.
	for _, x := range [][2]string{{"\x0112345678\x08", "\x00\x00\x01k"}, {"\x0112345678\x08\x00", "\x00\x01k"}, {"\x0112345678\x08\x00\x00", "\x01k"}, {"\x02operator\x01\x00", "\x00\x00\x00\x00"}} {
		if !frames.isReadAsItWasWritten(t, x[0]+x[1]) {
			t.Errorf("%x is not read", x[0]+x[1])
		}
		frames.isNothing(t, x[0]+"\x80"+x[1])
	}
}

func TestFramesStandAlone(t *testing.T) {
	t.Parallel()
	all := validFrames()
	frames.noneBeginsWithAnother(t, all)
	for _, f := range all {
		if f.Token == token {
			frames.standsAlone(t, frame.Write(f))
		}
	}
}

func TestEveryByteInEveryPlaceOfFrames(t *testing.T) {
	t.Parallel()
	for _, s := range frames.shortEncodings(validFrames()) {
		if len(s) > 40 || s[1] != '1' {
			continue
		}
		for at := range s {
			for n := range 256 {
				s := s[:at] + octet(uint8(n)) + s[at+1:]
				if is := frames.isReadAsItWasWritten(t, s); is != isFrameByHand(s) {
					t.Fatalf("%x is read: %v", s, is)
				}
			}
		}
	}
}

func TestAllShortBytesBehindAHead(t *testing.T) {
	t.Parallel()
	for _, x := range []struct {
		front, letters string
		most, least    int
	}{
		{"\x0112345678", "\x00\x01\x02\x05\x07\x08\x0a\x0b\x80\x81", 5, 1000},
		{"\x0112345678", "\x00\x01\x02", 9, 1000},
		{"\x02operator", "\x00\x01\x02\x04\x05\x06\x07\x08\x80\x81", 5, 15},
		{"\x02operator", "\x00\x01\x03", 10, 1000},
		{"\x00operator", "\x00\x01\x02\x07\x08", 5, 0},
		{"\x03operator", "\x00\x01\x02\x07\x08", 5, 0},
		{"\xffoperator", "\x00\x01\x02\x07\x08", 5, 0},
	} {
		read := everyShort(x.letters, x.most, func(s string) bool {
			is := frames.isReadAsItWasWritten(t, x.front+s)
			if is != isFrameByHand(x.front+s) {
				t.Fatalf("%x is read: %v", x.front+s, is)
			}
			return is
		})
		if read < x.least || x.least == 0 && read > 0 {
			t.Errorf("behind %x %d are read", x.front, read)
		}
	}
}

func TestBentFrames(t *testing.T) {
	t.Parallel()
	all := frames.shortEncodings(validFrames())
	random := rand.New(rand.NewSource(6))
	was := 0
	for range 200000 {
		s := bent(random, all[random.Intn(len(all))])
		is := frames.isReadAsItWasWritten(t, s)
		if is != isFrameByHand(s) {
			t.Fatalf("%x is read: %v", s, is)
		}
		if is {
			was++
		}
	}
	if was < 5000 {
		t.Errorf("of the bent encodings only %d are some", was)
	}
}

func TestFramesShareNoMemory(t *testing.T) {
	for _, f := range validFrames() {
		s := frame.Write(f)
		a, _ := frame.Read(s)
		b, _ := frame.Read(s)
		if sharesMemory(reflect.ValueOf(f), s) || sharesMemory(reflect.ValueOf(a), s) {
			t.Fatalf("%.200x shares memory with what it encodes, or with what is read", s)
		}
		if len(a.Cmd.Parts) > 0 {
			clear(a.Cmd.Parts[:cap(a.Cmd.Parts)])
			if !equal(b, f) {
				t.Fatalf("a change of one frame changed another one: %.300v", b)
			}
		}
	}
}

func TestFramesAreLeftAsTheyAre(t *testing.T) {
	spare := slices.Repeat([]api.Part{{Op: api.CPut, Key: "k", Value: strings.Repeat("v", 70)}}, 7)
	was := slices.Clone(spare)
	for n := range 7 {
		for op := range uint8(13) {
			for kind := range uint8(4) {
				frame.Write(api.Frame{Kind: kind, Cmd: api.Cmd{Op: op, Parts: spare[:n]}, Oper: api.Oper{Op: op % 8 * (kind / 2)}})
				if !slices.Equal(spare, was) {
					t.Fatalf("of %d Parts: they became %v", n, spare)
				}
			}
		}
	}
}

func FuzzRead(f *testing.F) {
	for _, s := range frames.shortEncodings(validFrames()) {
		f.Add(s)
	}
	f.Fuzz(func(t *testing.T, s string) {
		if is := frames.isReadAsItWasWritten(t, s); is != isFrameByHand(s) {
			t.Fatalf("%x is read: %v", s, is)
		}
	})
}
