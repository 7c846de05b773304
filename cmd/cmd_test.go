package cmd_test

import (
	"reflect"
	"slices"
	"strings"
	"testing"

	"wapentake/api"
	"wapentake/cmd"
)

var commands = kind[api.Cmd]{"a command", cmd.Write, cmd.Read}

// cmdUses is the chapter's table of the fields that an Op uses.
var cmdUses = map[uint8][]string{
	1:  {"TTL"},
	2:  {"Key", "Value", "Lease"},
	3:  {"Key"},
	4:  {"Key", "Expect", "Value"},
	5:  {"Parts"},
	6:  {"TTL"},
	7:  {"Lease"},
	8:  {"Key"},
	9:  {"From", "To", "Limit"},
	10: {},
	11: {},
}

// cmdByHand returns the encoding of a command, or the empty string, by the chapter's words.
func cmdByHand(c api.Cmd) string {
	uses, is := cmdUses[c.Op]
	if !is {
		return ""
	}
	v := reflect.ValueOf(withoutEmpty(c))
	for i := range v.NumField() {
		name := v.Type().Field(i).Name
		if !slices.Contains(uses, name) && !slices.Contains([]string{"Op", "Session", "Seq"}, name) && !v.Field(i).IsZero() {
			return ""
		}
	}
	s := octet(c.Op) + digits(c.Session) + digits(c.Seq)
	for _, name := range uses {
		switch f := v.FieldByName(name); f.Kind() {
		case reflect.String:
			s += row(f.String())
		case reflect.Uint64:
			s += digits(f.Uint())
		case reflect.Uint8:
			s += octet(uint8(f.Uint()))
		case reflect.Slice:
			parts := partsByHand(c.Parts)
			if parts == "" {
				return ""
			}
			s += parts
		}
	}
	return s
}

func partsByHand(parts []api.Part) string {
	if len(parts) < 1 || len(parts) > 4 {
		return ""
	}
	s := octet(uint8(len(parts)))
	for _, p := range parts {
		switch {
		case p.Op == 2:
			s += octet(2) + row(p.Key) + row(p.Value)
		case p.Op == 3 && p.Value == "":
			s += octet(3) + row(p.Key)
		default:
			return ""
		}
	}
	return s
}

// isAsByHand demands of any command that it is written as by hand, and read again if it is valid; it reports whether it is.
func isAsByHand(t *testing.T, c api.Cmd) bool {
	t.Helper()
	s := cmdByHand(c)
	if s == "" {
		if got := cmd.Write(c); got != "" {
			t.Fatalf("%.300v is not valid, but written as %.200x", c, got)
		}
		return false
	}
	commands.isEncoding(t, c, s)
	return true
}

// validCmds are commands of every Op, with everything at the edges in each field that it uses.
func validCmds() []api.Cmd {
	var cs []api.Cmd
	for op, uses := range cmdUses {
		base := api.Cmd{Op: op, Session: 1, Seq: 2}
		for _, name := range append([]string{"Session", "Seq"}, uses...) {
			if name == "Parts" {
				continue
			}
			c := base
			switch f := reflect.ValueOf(&c).Elem().FieldByName(name); f.Kind() {
			case reflect.String:
				for _, text := range texts() {
					f.SetString(text)
					cs = append(cs, c)
				}
			case reflect.Uint64:
				for _, n := range numbers {
					f.SetUint(n)
					cs = append(cs, c)
				}
			case reflect.Uint8:
				for n := range uint64(256) {
					f.SetUint(n)
					cs = append(cs, c)
				}
			}
		}
	}
	// A batch without Parts is none.
	cs = slices.DeleteFunc(cs, func(c api.Cmd) bool { return c.Op == api.CBatch })
	return append(cs, validBatches()...)
}

func validBatches() []api.Cmd {
	put, del := api.Part{Op: api.CPut, Key: "k", Value: "v"}, api.Part{Op: api.CDelete, Key: "k"}
	batches := [][]api.Part{{put}, {del}, {put, put}, {put, del}, {del, put}, {put, del, put}, {del, del, del, del}, {put, put, put, put}, {del, put, del, put}, {{Op: api.CPut}}, {{Op: api.CDelete}}}
	for _, text := range texts() {
		batches = append(batches,
			[]api.Part{{Op: api.CPut, Key: text, Value: "v"}},
			[]api.Part{{Op: api.CPut, Key: "k", Value: text}, del},
			[]api.Part{put, {Op: api.CDelete, Key: text}, put},
			[]api.Part{{Op: api.CDelete, Key: text}, {Op: api.CDelete, Key: text}, put, {Op: api.CPut, Key: text, Value: text}})
	}
	var cs []api.Cmd
	for _, parts := range batches {
		cs = append(cs, api.Cmd{Op: api.CBatch, Session: 300, Seq: 1, Parts: parts})
	}
	for _, n := range numbers {
		cs = append(cs, api.Cmd{Op: api.CBatch, Session: n, Parts: batches[3]}, api.Cmd{Op: api.CBatch, Seq: n, Parts: batches[3]})
	}
	return cs
}

func TestCommandExamples(t *testing.T) {
	put, del := api.Part{Op: api.CPut, Key: "k", Value: "v"}, api.Part{Op: api.CDelete, Key: "k"}
	for _, x := range []struct {
		c api.Cmd
		s string
	}{
		{api.Cmd{Op: api.CSession, TTL: 300}, "\x01\x00\x00\x82\x2c"},
		{api.Cmd{Op: api.CPut, Session: 1, Seq: 2, Key: "k", Value: "v", Lease: 3}, "\x02\x01\x02\x01k\x01v\x03"},
		{api.Cmd{Op: api.CPut}, "\x02\x00\x00\x00\x00\x00"},
		{api.Cmd{Op: api.CDelete, Session: 128, Key: "k"}, "\x03\x81\x00\x00\x01k"},
		{api.Cmd{Op: api.CCas, Key: "k", Expect: "e", Value: "vw"}, "\x04\x00\x00\x01k\x01e\x02vw"},
		{api.Cmd{Op: api.CBatch, Parts: []api.Part{put, del}}, "\x05\x00\x00\x02\x02\x01k\x01v\x03\x01k"},
		{api.Cmd{Op: api.CGrant, TTL: 1}, "\x06\x00\x00\x01"},
		{api.Cmd{Op: api.CKeep, Lease: 2}, "\x07\x00\x00\x02"},
		{api.Cmd{Op: api.CGet, Key: "k"}, "\x08\x00\x00\x01k"},
		{api.Cmd{Op: api.CRange, From: "a", To: "b", Limit: 200}, "\x09\x00\x00\x01a\x01b\xc8"},
		{api.Cmd{Op: api.CExport}, "\x0a\x00\x00"},
		{api.Cmd{Op: api.CAudit, Seq: 1<<64 - 1}, "\x0b\x00\x81" + ffs + "\x7f"},
	} {
		commands.isEncoding(t, x.c, x.s)
	}
	for _, c := range []api.Cmd{{}, {Op: api.CGet, Value: "v"}, {Op: api.CBatch}, {Op: 12}} {
		if s := cmd.Write(c); s != "" {
			t.Errorf("%v is written as %x", c, s)
		}
	}
}

func TestEveryOpWithEverySetOfFields(t *testing.T) {
	var whole api.Cmd
	fill(reflect.ValueOf(&whole).Elem())
	from := reflect.ValueOf(whole)
	valid := 0
	for op := range 256 {
		for set := range 1 << (from.NumField() - 1) {
			// Of the Ops that are none, and of the same Ops with higher bits, a few fields will do.
			if op > 12 && set&(set-1) != 0 {
				continue
			}
			c := api.Cmd{Op: uint8(op)}
			for i := 1; i < from.NumField(); i++ {
				if set>>(i-1)&1 == 1 {
					reflect.ValueOf(&c).Elem().Field(i).Set(from.Field(i))
				}
			}
			if isAsByHand(t, c) {
				valid++
			}
		}
	}
	// With and without Session, Seq and each field that is used; a batch never without its Parts.
	if want := 4 * (2 + 8 + 2 + 8 + 1 + 2 + 2 + 2 + 8 + 1 + 1); valid != want {
		t.Errorf("%d are valid, not %d", valid, want)
	}
}

func TestCommandsAtTheEdges(t *testing.T) {
	for _, c := range validCmds() {
		if !isAsByHand(t, c) {
			t.Fatalf("%.300v is not valid", c)
		}
	}
}

func TestHowManyParts(t *testing.T) {
	for _, n := range []int{0, 1, 2, 3, 4, 5, 6, 8, 127, 128, 255, 256, 257, 258, 260, 261, 512, 513, 1 << 16, 1<<16 + 1} {
		for _, p := range []api.Part{{Op: api.CPut, Key: "k", Value: "v"}, {Op: api.CDelete, Key: "k"}, {Op: api.CDelete}} {
			parts := slices.Repeat([]api.Part{p}, n)
			if valid := isAsByHand(t, api.Cmd{Op: api.CBatch, Parts: parts}); valid != (n >= 1 && n <= 4) {
				t.Errorf("%d Parts: %v", n, valid)
			}
			// Without Parts, any other Op may do; with them, none.
			for op := range uint8(13) {
				if op != api.CBatch && cmd.Write(api.Cmd{Op: op, Parts: parts}) != cmdByHand(api.Cmd{Op: op, Parts: parts}) {
					t.Errorf("Op %d with %d Parts", op, n)
				}
			}
		}
	}
	for n := range 256 {
		s := "\x05\x00\x00" + octet(uint8(n))
		for many := range 9 {
			if _, ok := cmd.Read(s + strings.Repeat("\x03\x00", many)); ok != (n == many && n >= 1 && n <= 4) {
				t.Errorf("%d Parts, said to be %d: %v", many, n, ok)
			}
		}
	}
}

func TestWhatPartsAre(t *testing.T) {
	good := api.Part{Op: api.CDelete, Key: "k"}
	for op := range 256 {
		for _, p := range []api.Part{{}, {Key: "k"}, {Value: "v"}, {Key: "k", Value: "v"}, {Value: "\x00"}, {Value: strings.Repeat("x", 65)}} {
			p.Op = uint8(op)
			want := op == 2 || op == 3 && p.Value == ""
			for at := range 4 {
				parts := slices.Repeat([]api.Part{good}, 4)
				parts[at] = p
				if valid := isAsByHand(t, api.Cmd{Op: api.CBatch, Parts: parts}); valid != want {
					t.Errorf("the Part %v: %v", p, valid)
				}
			}
		}
		s := "\x05\x00\x00\x01" + octet(uint8(op))
		if _, ok := cmd.Read(s + "\x01k"); ok != (op == 3) {
			t.Errorf("a Part of Op %d and a Key: %v", op, ok)
		}
		if _, ok := cmd.Read(s + "\x01k\x01v"); ok != (op == 2) {
			t.Errorf("a Part of Op %d, a Key and a Value: %v", op, ok)
		}
	}
}

func TestNoEncodingsOfCommands(t *testing.T) {
	for op := range 256 {
		for _, rest := range []string{"", "\x00", "\x00\x00", "\x00\x00\x00", "\x00\x00\x00\x00", "\x00\x00\x00\x00\x00", "\x00\x00\x01\x03\x00", ffs} {
			s := octet(uint8(op)) + rest
			if ok := commands.isReadAsItWasWritten(t, s); ok && (op < 1 || op > 11) {
				t.Errorf("Op %d", op)
			}
		}
	}
	for _, bad := range notGroups {
		for _, s := range []string{
			"\x0a" + bad + "\x00", "\x0a\x00" + bad, // Session, Seq
			"\x01\x00\x00" + bad, "\x06\x00\x00" + bad, "\x07\x00\x00" + bad, "\x02\x00\x00\x00\x00" + bad, // TTL, Lease
			"\x03\x00\x00" + bad + "k", "\x02\x00\x00\x00" + bad + "v\x00", "\x04\x00\x00\x00" + bad + "e\x00", "\x09\x00\x00\x00" + bad + "z\x05", // lengths
			"\x05\x00\x00\x01\x03" + bad + "k", "\x05\x00\x00\x01\x02\x00" + bad + "v",
		} {
			for more := range 3 {
				commands.isNothing(t, s+strings.Repeat("\x00", more))
			}
		}
	}
	for _, s := range []string{
		"", "\x0a", "\x0a\x00", "\x0a\x00\x00\x00", "\x08\x00\x00", "\x08\x00\x00\x02k", "\x09\x00\x00\x00\x00", "\x09\x00\x00\x00\x00\x81\x00",
		"\x05\x00\x00", "\x05\x00\x00\x01", "\x05\x00\x00\x02\x03\x00", "\x05\x00\x00\x01\x03\x00\x03\x00", "\x05\x00\x00\x81\x00\x03\x00",
		"\x08\x00\x00\x81" + ffs + "\x7fk", "\x02\x00\x00" + ffs + "\x7fk\x00\x00",
	} {
		commands.isNothing(t, s)
	}
}

func TestLengthsAreNoMatter(t *testing.T) {
	var whole api.Cmd
	fill(reflect.ValueOf(&whole).Elem())
	for op := range uint8(14) {
		whole.Op = op
		for _, c := range []api.Cmd{whole, {Op: op}, {Op: op, Limit: 1}, {Op: op, TTL: 1}, {Op: op, Parts: whole.Parts}, {Op: op, Parts: make([]api.Part, 2)}, {Op: op, Parts: slices.Repeat(whole.Parts, 3)}} {
			valid := cmd.Write(c) != ""
			for _, text := range texts() {
				if other := withTexts(c, text); cmd.Write(other) != "" != valid {
					t.Errorf("%v is valid: %v, with strings of %d bytes not so", c, valid, len(text))
				}
			}
		}
	}
}

// withTexts returns c with text in every string that its Op uses.
func withTexts(c api.Cmd, text string) api.Cmd {
	for _, name := range cmdUses[c.Op] {
		if f := reflect.ValueOf(&c).Elem().FieldByName(name); f.Kind() == reflect.String {
			f.SetString(text)
		}
	}
	if c.Op == api.CBatch {
		c.Parts = slices.Clone(c.Parts)
		for i := range c.Parts {
			c.Parts[i].Key = text
			if c.Parts[i].Op == api.CPut {
				c.Parts[i].Value = text
			}
		}
	}
	return c
}

func TestEncodingsOfCommandsStandAlone(t *testing.T) {
	cs := validCmds()
	commands.noneBeginsWithAnother(t, cs)
	for _, c := range cs {
		commands.standsAlone(t, cmd.Write(c))
	}
}

func TestWhatIsReadAsCommands(t *testing.T) {
	for _, c := range []counter{
		{"\x00\x01\x02\x03\x05\x08\x09\x0a\x0c\x81", 6},
		{"\x00\x01\x02\x03\x04\x06\x80\x81", 6},
		{"\x00\x01\x03\x05", 9},
		{"\x00\x02\x05\x07\x0b\x80\xff", 6},
	} {
		number, text := c.groups(), c.rows()
		put, del := c.just("\x02").then(text, text), c.just("\x03").then(text)
		parts := c.none()
		for n := 1; n <= 4; n++ {
			parts = parts.or(c.just(octet(uint8(n))).then(c.times(n, put.or(del))))
		}
		head := number.then(number)
		want := c.none().or(
			c.just("\x01").or(c.just("\x06"), c.just("\x07")).then(head, number),
			c.just("\x02").then(head, text, text, number),
			c.just("\x03").or(c.just("\x08")).then(head, text),
			c.just("\x04").then(head, text, text, text),
			c.just("\x05").then(head, parts),
			c.just("\x09").then(head, text, text, c.octets(0, 255)),
			c.just("\x0a").or(c.just("\x0b")).then(head),
		).all()
		if got := commands.howManyOf(t, c.letters, c.most); got != want || got == 0 {
			t.Errorf("of %x %d strings are encodings, not %d", c.letters, got, want)
		}
	}
}

func TestBentEncodingsOfCommands(t *testing.T) {
	var encodings []string
	for _, c := range validCmds() {
		if s := cmd.Write(c); len(s) < 100 {
			encodings = append(encodings, s)
		}
	}
	slices.Sort(encodings)
	commands.staysOneToOne(t, encodings)
}

func TestOversize(t *testing.T) {
	for name, most := range map[string]int{"Key": 16, "From": 16, "To": 16, "Value": 64, "Expect": 64} {
		for _, n := range []int{0, 1, 15, 16, 17, 18, 63, 64, 65, 66, 127, 128, 255, 256, 272, 320, 65536, 1 << 20} {
			text := strings.Repeat("\xe4", n)
			for op := range uint8(14) {
				c := api.Cmd{Op: op}
				reflect.ValueOf(&c).Elem().FieldByName(name).SetString(text)
				if got := cmd.Oversize(c); got != (n > most) {
					t.Errorf("Op %d, %s of %d bytes: %v", op, name, n, got)
				}
				if name == "Key" || name == "Value" {
					isOversizeByOnePart(t, op, name, text, n > most)
				}
			}
		}
	}
	small := api.Cmd{Op: 255, Session: 1<<64 - 1, Seq: 1<<64 - 1, Limit: 255, Lease: 1<<64 - 1, TTL: 1<<64 - 1, Parts: make([]api.Part, 1000)}
	if cmd.Oversize(small) || cmd.Oversize(api.Cmd{}) {
		t.Errorf("oversize without strings")
	}
}

func isOversizeByOnePart(t *testing.T, op uint8, name, text string, want bool) {
	t.Helper()
	for _, many := range []int{1, 4, 7} {
		for at := range many {
			for partOp := range uint8(5) {
				c := api.Cmd{Op: op, Parts: make([]api.Part, many)}
				c.Parts[at].Op = partOp
				reflect.ValueOf(&c.Parts[at]).Elem().FieldByName(name).SetString(text)
				if got := cmd.Oversize(c); got != want {
					t.Errorf("Op %d, the Part %d of %d with a %s of %d bytes: %v", op, at, many, name, len(text), got)
				}
			}
		}
	}
}

func TestAsks(t *testing.T) {
	for op := range 256 {
		want := slices.Contains([]int{api.CGet, api.CRange, api.CExport, api.CAudit}, op)
		if got := cmd.Asks(uint8(op)); got != want {
			t.Errorf("Asks(%d): %v", op, got)
		}
	}
}

func TestReadSharesNoMemory(t *testing.T) {
	for _, c := range validCmds() {
		s := cmd.Write(c)
		got, ok := cmd.Read(s)
		if !ok || sharesMemory(reflect.ValueOf(got), s) {
			t.Fatalf("%.200x shares memory with what is read, or %v", s, !ok)
		}
		if again, _ := cmd.Read(s); len(got.Parts) > 0 {
			got.Parts[0] = api.Part{}
			_ = append(got.Parts[:1], got.Parts[0])
			if !equal(again, c) {
				t.Fatalf("a change of one result changed another one: %.300v", again)
			}
		}
	}
}

func TestCommandsAreLeftAsTheyAre(t *testing.T) {
	spare := make([]api.Part, 6)
	for i := range spare {
		spare[i] = api.Part{Op: api.CPut, Key: "k", Value: "v"}
	}
	was := slices.Clone(spare)
	for op := range uint8(13) {
		for n := range 6 {
			c := api.Cmd{Op: op, Parts: spare[:n]}
			cmd.Write(c)
			cmd.Oversize(c)
			if !slices.Equal(spare, was) {
				t.Fatalf("Op %d with %d Parts: they became %v", op, n, spare)
			}
		}
	}
}

func FuzzRead(f *testing.F) {
	for _, s := range []string{"", "\x02\x01\x02\x01k\x01v\x03", "\x05\x00\x00\x02\x02\x01k\x01v\x03\x01k", "\x02\x0212345678\x03", "\x01\x01\x10\x84\x00\x01\x09", "\x00\x05\x00\x01\x01k\x01v\x07"} {
		f.Add(s)
	}
	f.Fuzz(func(t *testing.T, s string) {
		commands.isReadAsItWasWritten(t, s)
		opers.isReadAsItWasWritten(t, s)
		results.isReadAsItWasWritten(t, s)
	})
}
