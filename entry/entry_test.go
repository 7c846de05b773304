package entry_test

import (
	"maps"
	"math"
	"math/rand"
	"slices"
	"strings"
	"testing"
	"unsafe"

	"wapentake/api"
	"wapentake/entry"
)

func TestExamples(t *testing.T) {
	for _, x := range []struct {
		e api.Entry
		s string
	}{
		{api.Entry{Index: 1, Term: 2, Kind: api.ENoop}, "\x01\x01\x02"},
		{api.Entry{Index: 128, Term: 2, Kind: api.EConf, Body: "\x07"}, "\x02\x81\x00\x02\x01\x07"},
		{api.Entry{Index: 3, Term: 1, Kind: api.EData, Slot: 2, Token: token, Body: "xy"}, "\x03\x03\x01\x0212345678\x02xy"},
		{api.Entry{Index: 1, Term: 1, Kind: api.EData}, "\x03\x01\x01\x00\x00\x00\x00\x00\x00\x00\x00\x00\x00"},
		{api.Entry{Index: 2, Term: 300, Kind: api.EOper, Body: "o"}, "\x04\x02\x82\x2c\x01o"},
		{api.Entry{Index: 2, Term: 1, Kind: api.EOper}, "\x04\x02\x01\x00"},
		{api.Entry{Index: 5, Term: 4, Kind: api.ETick}, "\x05\x05\x04"},
		{api.Entry{Index: math.MaxUint64, Term: 1, Kind: api.ETick}, "\x05\x81" + ffs + "\x7f\x01"},
	} {
		if s := entry.Write(x.e); s != x.s || !entry.Right(x.e) {
			t.Errorf("%v is written as %x, not %x, and right: %v", x.e, s, x.s, entry.Right(x.e))
		}
		if e, ok := entry.Read(x.s); e != x.e || !ok {
			t.Errorf("%x is read as %v, %v", x.s, e, ok)
		}
	}
	for _, e := range []api.Entry{
		{},
		{Term: 1, Kind: api.ENoop},
		{Index: 1, Term: 1, Kind: api.EConf, Body: " "},
		{Index: 1, Term: 1, Kind: api.ETick, Slot: 1},
	} {
		if s := entry.Write(e); s != "" || entry.Right(e) {
			t.Errorf("%v is written as %x, and right: %v", e, s, entry.Right(e))
		}
	}
}

func TestEveryKindWithEverySetOfFields(t *testing.T) {
	valid := 0
	for kind := range 256 {
		for set := range 1 << 5 {
			e := api.Entry{Kind: uint8(kind)}
			if set&1 != 0 {
				e.Index = 3
			}
			if set&2 != 0 {
				e.Term = 3
			}
			if set&4 != 0 {
				e.Slot = 3
			}
			if set&8 != 0 {
				e.Token = api.Token{7: 3}
			}
			if set&16 != 0 {
				e.Body = "\x03"
			}
			if isAsByHand(t, e) {
				valid++
			}
		}
	}
	// Always with Index and Term; with and without Slot, Token and Body for EData, with and without Body for EOper, never without a Body for EConf.
	if want := 1 + 1 + 8 + 2 + 1; valid != want {
		t.Errorf("%d are valid, not %d", valid, want)
	}
}

func TestEntriesAtTheEdges(t *testing.T) {
	for _, e := range validEntries() {
		if !isAsByHand(t, e) {
			t.Fatalf("%.300v is not valid", e)
		}
	}
}

func TestIndexAndTerm(t *testing.T) {
	tails := []string{"", "\x00", "\x01\x07", "\x0012345678\x00", "\x00\x00"}
	for _, index := range numbers {
		for _, term := range numbers {
			for _, kind := range kinds {
				for _, body := range []string{"", "\x07"} {
					is := isAsByHand(t, api.Entry{Index: index, Term: term, Kind: kind, Body: body})
					if kind == api.EData && is != (index > 0 && term > 0) {
						t.Errorf("Index %d, Term %d: %v", index, term, is)
					}
				}
				for _, tail := range tails {
					is := isReadAsItWasWritten(t, octet(kind)+digits(index)+digits(term)+tail)
					if is && (index == 0 || term == 0 || kind == 0 || kind > 5) {
						t.Errorf("Index %d, Term %d, Kind %d is read", index, term, kind)
					}
				}
			}
		}
	}
}

func TestSlots(t *testing.T) {
	for slot := range 256 {
		for _, kind := range kinds {
			for _, body := range []string{"", "\x01"} {
				is := isAsByHand(t, api.Entry{Index: 1, Term: 1, Kind: kind, Slot: uint8(slot), Body: body})
				if kind == api.EData && is != (slot <= 3) || kind != api.EData && is && slot != 0 {
					t.Errorf("Kind %d, Slot %d: %v", kind, slot, is)
				}
			}
			s := octet(kind) + "\x01\x01" + octet(uint8(slot)) + "12345678\x01b"
			if is := isReadAsItWasWritten(t, s); kind == api.EData && is != (slot <= 3) {
				t.Errorf("Slot %d is read: %v", slot, is)
			}
		}
	}
}

func TestTokens(t *testing.T) {
	all := slices.Clone(tokens)
	for at := range 8 {
		for bit := range 8 {
			var tok api.Token
			tok[at] = 1 << bit
			all = append(all, tok)
		}
	}
	for _, tok := range all {
		for _, kind := range kinds {
			for _, body := range []string{"", "\x01", "long enough"} {
				is := isAsByHand(t, api.Entry{Index: 1, Term: 1, Kind: kind, Token: tok, Body: body})
				if kind == api.EData && !is || kind != api.EData && is && tok != (api.Token{}) {
					t.Errorf("Kind %d, Token %x: %v", kind, tok, is)
				}
			}
		}
	}
}

func TestBodies(t *testing.T) {
	for _, body := range bodies() {
		for _, kind := range kinds {
			is := isAsByHand(t, api.Entry{Index: 1, Term: 1, Kind: kind, Body: body})
			if want := kind == api.EData || kind == api.EOper; want && !is {
				t.Errorf("Kind %d with the Body %.200x", kind, body)
			}
			if none := kind == api.ENoop || kind == api.ETick; none && is != (body == "") {
				t.Errorf("Kind %d with the Body %.200x: %v", kind, body, is)
			}
			// A row behind what has none, and none behind what has one.
			isReadAsItWasWritten(t, octet(kind)+"\x01\x01"+row(body))
			isReadAsItWasWritten(t, octet(kind)+"\x01\x01"+body)
		}
	}
}

func TestBodiesOfMemberships(t *testing.T) {
	isMembership := func(body string, want bool) {
		if is := isAsByHand(t, api.Entry{Index: 1, Term: 1, Kind: api.EConf, Body: body}); is != want {
			t.Errorf("the membership %x: %v", body, is)
		}
		if is := isReadAsItWasWritten(t, "\x02\x01\x01"+row(body)); is != want {
			t.Errorf("the membership %x is read: %v", body, is)
		}
	}
	isMembership("", false)
	for a := range 256 {
		isMembership(octet(uint8(a)), a >= 1 && a <= 31)
		for b := range 256 {
			isMembership(octet(uint8(a))+octet(uint8(b)), false)
		}
	}
	for n := 3; n < 300; n++ {
		isMembership(strings.Repeat("\x01", n), false)
	}
}

func TestBytesThatAreNoGroups(t *testing.T) {
	for _, bad := range notGroups {
		for _, kind := range kinds {
			for _, s := range []string{
				bad + "\x01", "\x01" + bad, // Index, Term
				bad + "\x01\x01\x07", "\x01" + bad + "\x01\x07", "\x01\x01" + bad + "\x07", // and the length of a Body
				bad + "\x01\x0012345678\x00", "\x01" + bad + "\x0012345678\x00", "\x01\x01\x0012345678" + bad,
			} {
				for more := range 3 {
					s := octet(kind) + s + strings.Repeat("x", more)
					if is := isReadAsItWasWritten(t, s); is && kind != api.EData && kind != api.EOper {
						t.Errorf("%x is read", s)
					}
				}
			}
		}
		for more := range 3 {
			x := strings.Repeat("x", more)
			isNothing(t, "\x01"+bad+"\x01"+x)
			isNothing(t, "\x05\x01"+bad+x)
			isNothing(t, "\x02\x01\x01"+bad+"\x07"+x)
			isNothing(t, "\x03\x01\x01\x0012345678"+bad+x)
			isNothing(t, "\x04\x01\x01"+bad+x)
		}
	}
}

func TestLengthsThatAreNotThoseOfWhatFollows(t *testing.T) {
	for _, many := range []int{0, 1, 2, 127, 128, 129, 300} {
		follows := strings.Repeat("\x07", many)
		for _, n := range append(slices.Clone(numbers), 3, 126, 130, 299, 300, 301, 1<<31-1, 1<<31, math.MaxUint64-12, math.MaxUint64-3) {
			want := n == uint64(many)
			if is := isReadAsItWasWritten(t, "\x03\x01\x01\x0012345678"+digits(n)+follows); is != want {
				t.Errorf("EData: %d bytes, said to be %d: %v", many, n, is)
			}
			if is := isReadAsItWasWritten(t, "\x04\x01\x01"+digits(n)+follows); is != want {
				t.Errorf("EOper: %d bytes, said to be %d: %v", many, n, is)
			}
			if is := isReadAsItWasWritten(t, "\x02\x01\x01"+digits(n)+follows); is != (want && n == 1) {
				t.Errorf("EConf: %d bytes, said to be %d: %v", many, n, is)
			}
		}
	}
}

func TestEncodingsStandAlone(t *testing.T) {
	isNothing(t, "")
	for _, e := range validEntries() {
		s := entry.Write(e)
		for i := range min(len(s), 300) {
			isNothing(t, s[:i])
			isNothing(t, s[:len(s)-1-i])
		}
		isNothing(t, s[:len(s)/2])
		isNothing(t, s+s)
		if len(s) < 1000 {
			for b := range 256 {
				isNothing(t, s+octet(uint8(b)))
			}
		}
		for _, tail := range []string{"\x00", ffs, "\x81\x00", "\x01\x01\x01", "\x00\x00\x00"} {
			isNothing(t, s+tail)
		}
	}
}

func TestNoEncodingBeginsWithAnother(t *testing.T) {
	of := map[string]api.Entry{}
	for _, e := range validEntries() {
		s := entry.Write(e)
		if other, had := of[s]; had && other != e {
			t.Fatalf("%.300v and %.300v: %.200x", other, e, s)
		}
		of[s] = e
	}
	all := slices.Sorted(maps.Keys(of))
	for i := 1; i < len(all); i++ {
		// What begins with a string stands right behind it in this order.
		if strings.HasPrefix(all[i], all[i-1]) {
			t.Fatalf("%.200x is a proper prefix of %.200x", all[i-1], all[i])
		}
	}
}

// encodings counts, by the chapter's words, the encodings of exactly the given number of bytes, each byte out of letters; the number must be too small for groups beyond 2^64 - 1, and for a Body's length of two digits.
func encodings(letters string, size int) int {
	among := func(least, most uint8) int {
		n := 0
		for i := range len(letters) {
			if letters[i] >= least && letters[i] <= most {
				n++
			}
		}
		return n
	}
	power := func(n, times int) int {
		all := 1
		for range times {
			all *= n
		}
		return all
	}
	// The groups of n bytes that are not those of 0.
	groups := func(n int) int {
		if n == 1 {
			return among(1, 127)
		}
		return among(129, 255) * power(among(128, 255), n-2) * among(0, 127)
	}
	rows := func(n int) int {
		if n < 1 {
			return 0
		}
		return among(uint8(n-1), uint8(n-1)) * power(len(letters), n-1)
	}
	count := 0
	for index := 1; index < size; index++ {
		for term := 1; 1+index+term <= size; term++ {
			rest := size - 1 - index - term
			heads := groups(index) * groups(term)
			if rest == 0 {
				count += heads * (among(1, 1) + among(5, 5))
			}
			if rest == 2 {
				count += heads * among(2, 2) * among(1, 1) * among(1, 31)
			}
			count += heads * among(4, 4) * rows(rest)
			count += heads * among(3, 3) * among(0, 3) * power(len(letters), 8) * rows(rest-9)
		}
	}
	return count
}

func TestHowManyStringsAreEncodings(t *testing.T) {
	for _, x := range []struct {
		letters string
		most    int
	}{
		{"\x00\x01\x02\x03\x04\x05\x06\x07\x1f\x20\x80\x81\xff", 5},
		{"\x00\x01\x02\x03\x04\x80\x81", 7},
		{"\x00\x01\x03", 14},
		{"\x00\x03\x81", 14},
	} {
		found, b := make([]int, x.most+1), make([]byte, x.most)
		var from func(at int)
		from = func(at int) {
			if isReadAsItWasWritten(t, string(b[:at])) {
				found[at]++
			}
			for i := 0; at < x.most && i < len(x.letters); i++ {
				b[at] = x.letters[i]
				from(at + 1)
			}
		}
		from(0)
		for size, got := range found {
			if want := encodings(x.letters, size); got != want {
				t.Errorf("of %x %d strings of %d bytes are encodings, not %d", x.letters, got, size, want)
			}
		}
		if found[x.most] == 0 {
			t.Errorf("of %x none is an encoding of %d bytes", x.letters, x.most)
		}
	}
}

func TestBentEncodings(t *testing.T) {
	var all []string
	for _, e := range validEntries() {
		if s := entry.Write(e); len(s) < 200 {
			all = append(all, s)
		}
	}
	random := rand.New(rand.NewSource(4))
	was := 0
	for range 300000 {
		if isReadAsItWasWritten(t, bent(random, all[random.Intn(len(all))])) {
			was++
		}
	}
	if was < 3000 {
		t.Errorf("of the bent encodings only %d are some", was)
	}
}

// liesIn reports whether a lies in the bytes of b.
func liesIn(a, b string) bool {
	from := uintptr(unsafe.Pointer(unsafe.StringData(b)))
	at := uintptr(unsafe.Pointer(unsafe.StringData(a)))
	return len(a) > 0 && at >= from && at < from+uintptr(len(b))
}

func TestEntriesShareNoMemory(t *testing.T) {
	for _, body := range bodies() {
		// Bodies of one byte all lie in the same place.
		if len(body) < 2 {
			continue
		}
		for _, kind := range []uint8{api.EData, api.EOper} {
			s := entry.Write(api.Entry{Index: 1, Term: 1, Kind: kind, Body: body})
			if liesIn(s, body) || liesIn(body, s) {
				t.Fatalf("%.200x shares memory with what it encodes", s)
			}
			if e, _ := entry.Read(s); e.Body != body || liesIn(e.Body, s) {
				t.Fatalf("%.200x shares memory with what is read", s)
			}
		}
	}
}

func FuzzRead(f *testing.F) {
	for _, e := range validEntries() {
		if s := entry.Write(e); len(s) < 200 {
			f.Add(s)
		}
	}
	f.Fuzz(func(t *testing.T, s string) {
		isReadAsItWasWritten(t, s)
	})
}
