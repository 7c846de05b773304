package cmd_test

import (
	"math"
	"reflect"
	"slices"
	"testing"

	"wapentake/api"
	"wapentake/cmd"
)

var opers = kind[api.Oper]{"an operator command", cmd.WriteOper, cmd.ReadOper}

// operUses is the chapter's list of the fields that an operator's Op uses.
var operUses = map[uint8][]string{
	1: {"Slot", "Keys", "Bytes", "Rate", "Burst"},
	2: {"Slot", "Token", "Role"},
	3: {"Token"},
	4: {"Slot"},
	5: {"Node"},
	6: {"Node"},
	7: {"Node"},
}

// octetBounds are those of the fields that are one byte.
var octetBounds = map[string][2]uint64{"Slot": {0, 3}, "Role": {1, 3}, "Node": {1, 5}}

var token = api.Token{'1', '2', '3', '4', '5', '6', '7', '8'}

// operByHand returns the encoding of an operator command, or the empty string, by the chapter's words.
func operByHand(o api.Oper) string {
	uses, is := operUses[o.Op]
	if !is {
		return ""
	}
	v := reflect.ValueOf(o)
	for i := 1; i < v.NumField(); i++ {
		if !slices.Contains(uses, v.Type().Field(i).Name) && !v.Field(i).IsZero() {
			return ""
		}
	}
	s := octet(o.Op)
	for _, name := range uses {
		switch f := v.FieldByName(name); f.Kind() {
		case reflect.Uint8:
			if f.Uint() < octetBounds[name][0] || f.Uint() > octetBounds[name][1] {
				return ""
			}
			s += octet(uint8(f.Uint()))
		case reflect.Int:
			if f.Int() < 0 || f.Int() > math.MaxInt32 {
				return ""
			}
			s += digits(uint64(f.Int()))
		case reflect.Array:
			s += string(o.Token[:])
		}
	}
	return s
}

// isOperAsByHand demands of any operator command that it is written as by hand, and read again if it is valid; it reports whether it is.
func isOperAsByHand(t *testing.T, o api.Oper) bool {
	t.Helper()
	s := operByHand(o)
	if s == "" {
		if got := cmd.WriteOper(o); got != "" {
			t.Fatalf("%v is not valid, but written as %x", o, got)
		}
		return false
	}
	opers.isEncoding(t, o, s)
	return true
}

// validOpers are operator commands of every Op, with everything at the edges in each field that it uses.
func validOpers() []api.Oper {
	var all []api.Oper
	for slot := range uint8(4) {
		all = append(all, api.Oper{Op: api.OCreate, Slot: slot}, api.Oper{Op: api.ORemove, Slot: slot})
		for role := uint8(1); role <= 3; role++ {
			for _, tok := range []api.Token{{}, token, {7: 1}, {0: 1}, {255, 255, 255, 255, 255, 255, 255, 255}} {
				all = append(all, api.Oper{Op: api.OPrincipal, Slot: slot, Token: tok, Role: role}, api.Oper{Op: api.ODrop, Token: tok})
			}
		}
	}
	for node := uint8(1); node <= 5; node++ {
		all = append(all, api.Oper{Op: api.OAdd, Node: node}, api.Oper{Op: api.OOut, Node: node}, api.Oper{Op: api.OLead, Node: node})
	}
	amounts := []int{0, 1, 127, 128, 16384, 1<<28 - 1, 1 << 28, math.MaxInt32 - 1, math.MaxInt32}
	for _, a := range amounts {
		for _, b := range amounts {
			all = append(all, api.Oper{Op: api.OCreate, Slot: 2, Keys: a, Bytes: b, Rate: 1, Burst: 2}, api.Oper{Op: api.OCreate, Keys: 3, Bytes: 4, Rate: a, Burst: b})
		}
	}
	return all
}

func TestOperatorExamples(t *testing.T) {
	for _, x := range []struct {
		o api.Oper
		s string
	}{
		{api.Oper{Op: api.OCreate, Slot: 1, Keys: 16, Bytes: 512, Rate: 1, Burst: 9}, "\x01\x01\x10\x84\x00\x01\x09"},
		{api.Oper{Op: api.OCreate}, "\x01\x00\x00\x00\x00\x00"},
		{api.Oper{Op: api.OCreate, Burst: math.MaxInt32}, "\x01\x00\x00\x00\x00\x87\xff\xff\xff\x7f"},
		{api.Oper{Op: api.OPrincipal, Slot: 2, Token: token, Role: 3}, "\x02\x0212345678\x03"},
		{api.Oper{Op: api.ODrop, Token: token}, "\x0312345678"},
		{api.Oper{Op: api.ODrop}, "\x03\x00\x00\x00\x00\x00\x00\x00\x00"},
		{api.Oper{Op: api.ORemove, Slot: 3}, "\x04\x03"},
		{api.Oper{Op: api.ORemove}, "\x04\x00"},
		{api.Oper{Op: api.OAdd, Node: 5}, "\x05\x05"},
		{api.Oper{Op: api.OOut, Node: 1}, "\x06\x01"},
		{api.Oper{Op: api.OLead, Node: 2}, "\x07\x02"},
	} {
		opers.isEncoding(t, x.o, x.s)
	}
	for _, o := range []api.Oper{{}, {Op: api.OAdd, Node: 6}, {Op: api.OAdd}, {Op: 8}, {Op: api.OPrincipal, Token: token}} {
		if s := cmd.WriteOper(o); s != "" {
			t.Errorf("%v is written as %x", o, s)
		}
	}
}

func TestEveryOperWithEverySetOfFields(t *testing.T) {
	var whole api.Oper
	fill(reflect.ValueOf(&whole).Elem())
	from := reflect.ValueOf(whole)
	valid := 0
	for op := range 256 {
		for set := range 1 << (from.NumField() - 1) {
			o := api.Oper{Op: uint8(op)}
			for i := 1; i < from.NumField(); i++ {
				if set>>(i-1)&1 == 1 {
					reflect.ValueOf(&o).Elem().Field(i).Set(from.Field(i))
				}
			}
			if isOperAsByHand(t, o) {
				valid++
			}
		}
	}
	// With and without each field that is used; never without a Role or a Node.
	if want := 32 + 4 + 2 + 2 + 1 + 1 + 1; valid != want {
		t.Errorf("%d are valid, not %d", valid, want)
	}
}

func TestBoundsOfOctets(t *testing.T) {
	for op := range uint8(9) {
		for n := range 256 {
			b := uint8(n)
			if got := isOperAsByHand(t, api.Oper{Op: op, Slot: b, Role: 1}); got != (op == 2 && n <= 3) {
				t.Errorf("Op %d, Slot %d and a Role: %v", op, n, got)
			}
			if got := isOperAsByHand(t, api.Oper{Op: op, Slot: b}); got != ((op == 1 || op == 4) && n <= 3 || op == 3 && n == 0) {
				t.Errorf("Op %d, Slot %d: %v", op, n, got)
			}
			if got := isOperAsByHand(t, api.Oper{Op: op, Slot: 3, Role: b}); got != (op == 2 && n >= 1 && n <= 3 || (op == 1 || op == 4) && n == 0) {
				t.Errorf("Op %d, Role %d: %v", op, n, got)
			}
			if got := isOperAsByHand(t, api.Oper{Op: op, Node: b}); got != (op >= 5 && op <= 7 && n >= 1 && n <= 5 || (op == 1 || op == 3 || op == 4) && n == 0) {
				t.Errorf("Op %d, Node %d: %v", op, n, got)
			}
		}
	}
	for n := range 256 {
		b := octet(uint8(n))
		for s, want := range map[string]bool{
			"\x01" + b + "\x00\x00\x00\x00": n <= 3, "\x02" + b + "12345678\x02": n <= 3, "\x04" + b: n <= 3,
			"\x02\x0312345678" + b: n >= 1 && n <= 3,
			"\x05" + b:             n >= 1 && n <= 5, "\x06" + b: n >= 1 && n <= 5, "\x07" + b: n >= 1 && n <= 5,
			b: false,
		} {
			if got := opers.isReadAsItWasWritten(t, s); got != want {
				t.Errorf("ReadOper(%x): %v", s, got)
			}
		}
	}
}

func TestBoundsOfAmounts(t *testing.T) {
	for _, n := range []int{math.MinInt, -1 << 32, math.MinInt32, -128, -1, 0, 1, 127, 128, 1<<31 - 2, 1<<31 - 1, 1 << 31, 1<<31 + 1, 1<<32 - 1, 1 << 32, 1<<32 + 1, 1 << 40, math.MaxInt} {
		want := n >= 0 && n <= 1<<31-1
		for at, name := range []string{"Keys", "Bytes", "Rate", "Burst"} {
			for op := range uint8(9) {
				o := api.Oper{Op: op}
				reflect.ValueOf(&o).Elem().FieldByName(name).SetInt(int64(n))
				if got := isOperAsByHand(t, o); op == api.OCreate && got != want {
					t.Errorf("%s %d: %v", name, n, got)
				}
			}
			groups := []string{"\x00", "\x00", "\x00", "\x00"}
			groups[at] = digits(uint64(n))
			if got := opers.isReadAsItWasWritten(t, "\x01\x00"+groups[0]+groups[1]+groups[2]+groups[3]); got != want {
				t.Errorf("%s %d, read: %v", name, n, got)
			}
		}
	}
}

func TestNoEncodingsOfOperatorCommands(t *testing.T) {
	for _, bad := range notGroups {
		for at := range 4 {
			groups := []string{"\x00", "\x00", "\x00", "\x00"}
			groups[at] = bad
			opers.isNothing(t, "\x01\x00"+groups[0]+groups[1]+groups[2]+groups[3])
		}
	}
	for _, s := range []string{"", "\x00", "\x08", "\x08\x01", "\x01", "\x01\x00", "\x04", "\x05", "\x03", "\x031234567", "\x03123456789", "\x02\x00", "\x02\x001234567", "\x02\x0012345678", "\x02\x0012345678\x01\x00"} {
		opers.isNothing(t, s)
	}
}

func TestEncodingsOfOperatorCommandsStandAlone(t *testing.T) {
	all := validOpers()
	opers.noneBeginsWithAnother(t, all)
	for _, o := range all {
		if !isOperAsByHand(t, o) {
			t.Fatalf("%v is not valid", o)
		}
		opers.standsAlone(t, cmd.WriteOper(o))
	}
}

func TestWhatIsReadAsOperatorCommands(t *testing.T) {
	for _, c := range []counter{
		{"\x00\x01\x03\x04\x05\x06\x07\x08\x80\x81", 6},
		{"\x01\x02\x04\x81", 10},
		{"\x00\x03\x04", 11},
	} {
		amount, tok := c.groups(), c.times(8, c.octets(0, 255))
		slot := c.octets(0, 3)
		want := c.none().or(
			c.just("\x01").then(slot, amount, amount, amount, amount),
			c.just("\x02").then(slot, tok, c.octets(1, 3)),
			c.just("\x03").then(tok),
			c.just("\x04").then(slot),
			c.octets(5, 7).then(c.octets(1, 5)),
		).all()
		if got := opers.howManyOf(t, c.letters, c.most); got != want || got == 0 {
			t.Errorf("of %x %d strings are encodings, not %d", c.letters, got, want)
		}
	}
}

func TestBentEncodingsOfOperatorCommands(t *testing.T) {
	var encodings []string
	for _, o := range validOpers() {
		encodings = append(encodings, cmd.WriteOper(o))
	}
	opers.staysOneToOne(t, encodings)
}
