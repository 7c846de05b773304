package msg_test

import (
	"maps"
	"math"
	"math/rand"
	"slices"
	"strings"
	"testing"

	"wapentake/api"
	"wapentake/entry"
	"wapentake/msg"
)

// piece tells how many bytes a piece of an encoding may have at the beginning of s: all sizes with which it is one, by the chapter's words.
type piece func(s string) []int

// octetsFrom is a byte within bounds.
func octetsFrom(least, most uint8) piece {
	return func(s string) []int {
		if s != "" && s[0] >= least && s[0] <= most {
			return []int{1}
		}
		return nil
	}
}

// groups are the digits of some number.
func groups(s string) []int {
	var sizes []int
	n := uint64(0)
	for i := range min(len(s), 10) {
		n = n*128 + uint64(s[i]%128)
		if s[i] < 128 && digits(n) == s[:i+1] {
			sizes = append(sizes, i+1)
		}
	}
	return sizes
}

// rowOf is the row of a string that may stand there.
func rowOf(may func(string) bool) piece {
	return func(s string) []int {
		var sizes []int
		for _, head := range groups(s) {
			for end := head; end <= len(s); end++ {
				if digits(uint64(end-head)) == s[:head] && may(s[head:end]) {
					sizes = append(sizes, end)
				}
			}
		}
		return sizes
	}
}

func isAnything(string) bool { return true }

func isAnEntry(s string) bool {
	_, ok := entry.Read(s)
	return ok
}

// cuts returns what is left of each string behind such pieces, once for each way in which they can be cut off.
func cuts(rests []string, pieces ...piece) []string {
	for _, p := range pieces {
		var next []string
		for _, rest := range rests {
			for _, size := range p(rest) {
				next = append(next, rest[size:])
			}
		}
		rests = next
	}
	return rests
}

// waysOfAMessage returns in how many ways s can be cut into the pieces of a message's encoding.
func waysOfAMessage(s string) int {
	heads := cuts([]string{s},
		octetsFrom(1, 7), octetsFrom(1, 5), octetsFrom(1, 5), // Kind, From, To
		groups, groups, groups, groups, groups, // Term, Index, LogTerm, Commit, Round
		octetsFrom(0, 1), octetsFrom(0, 31), octetsFrom(0, 4)) // OK, Members, Section
	n := 0
	for many := range uint8(9) {
		rests := cuts(heads, octetsFrom(many, many))
		for range many {
			rests = cuts(rests, rowOf(isAnEntry))
		}
		for _, rest := range cuts(rests, rowOf(isAnything)) {
			if rest == "" {
				n++
			}
		}
	}
	return n
}

// isReadAsItCanBeCut demands of any bytes that they are read if they can be cut into the pieces of an encoding, and that they can be so in one way only; it reports whether they can.
func isReadAsItCanBeCut(t *testing.T, s string) bool {
	t.Helper()
	is, n := isReadAsItWasWritten(t, s), waysOfAMessage(s)
	if n > 1 || is != (n == 1) {
		t.Fatalf("%x can be cut in %d ways, and is read: %v", s, n, is)
	}
	return is
}

func TestAllShortStrings(t *testing.T) {
	head := "\x03\x01\x02" + strings.Repeat("\x01", 5) + "\x01\x07\x00"
	for _, x := range []struct {
		name, front, letters string
		most                 int
		back                 string
	}{
		{"Kind, From, To", "", "\x00\x01\x02\x05\x06\x07\x08\xff", 4, strings.Repeat("\x00", 10)},
		{"the numbers", "\x07\x05\x05", "\x00\x01\x80\x81\xff", 7, strings.Repeat("\x00", 5)},
		{"from OK on", "\x01\x01\x01" + strings.Repeat("\x00", 5), "\x00\x01\x02\x04\x05\x1f\x20", 6, ""},
		{"an Entry, a Body", head, "\x00\x01\x02\x03", 8, ""},
		{"two Entries", head, "\x01\x02\x03", 11, ""},
		{"an Entry's Body", head + "\x01", "\x01\x04\x05\x81", 8, ""},
		{"the eighth Entry", head + "\x08" + strings.Repeat("\x03\x01\x01\x01", 7), "\x00\x01\x02\x03\x05", 6, ""},
		{"everything", "", "\x00\x01", 16, ""},
	} {
		t.Run(x.name, func(t *testing.T) {
			t.Parallel()
			read, b := 0, make([]byte, x.most)
			var from func(at int)
			from = func(at int) {
				if isReadAsItCanBeCut(t, x.front+string(b[:at])+x.back) {
					read++
				}
				for i := 0; at < x.most && i < len(x.letters); i++ {
					b[at] = x.letters[i]
					from(at + 1)
				}
			}
			from(0)
			if read < 10 {
				t.Errorf("only %d are read", read)
			}
		})
	}
}

func TestBentEncodings(t *testing.T) {
	var all []string
	for _, m := range validMsgs() {
		if s := msg.Write(m); len(s) < 200 {
			all = append(all, s)
		}
	}
	random := rand.New(rand.NewSource(5))
	was := 0
	for range 200000 {
		if isReadAsItCanBeCut(t, bent(random, all[random.Intn(len(all))])) {
			was++
		}
	}
	if was < 3000 {
		t.Errorf("of the bent encodings only %d are some", was)
	}
}

func TestEveryByteInEveryPlaceOfOne(t *testing.T) {
	s := byHand(plain)
	for _, x := range []struct {
		name            string
		at, least, most int
	}{
		{"Kind", 0, 1, 7}, {"From", 1, 1, 5}, {"To", 2, 1, 5}, {"OK", 9, 0, 1}, {"Members", 10, 0, 31}, {"Section", 11, 0, 4}, {"the number of Entries", 12, 0, 0},
	} {
		for n := range 256 {
			if is := isReadAsItCanBeCut(t, s[:x.at]+octet(uint8(n))+s[x.at+1:]); is != (n >= x.least && n <= x.most) {
				t.Errorf("%s %d: %v", x.name, n, is)
			}
		}
	}
}

func TestBytesThatAreNoGroups(t *testing.T) {
	ones := []string{"\x01", "\x01", "\x01", "\x01", "\x01"}
	for _, bad := range notGroups {
		for _, more := range []string{"", "\x00", "\x01\x01", "\x01" + strings.Repeat("\x00", 10)} {
			for at := range ones {
				five := slices.Clone(ones)
				five[at] = bad
				isNothing(t, "\x03\x01\x02"+strings.Join(five, "")+"\x00\x00\x00\x00\x00"+more)
			}
			// The length of the Body, of an Entry and of a second one; an Entry's Index and Term.
			isNothing(t, before()+"\x00"+bad+more)
			isNothing(t, before()+"\x00"+bad+"body"+more)
			isNothing(t, before()+"\x01"+bad+"\x01\x01\x02\x00"+more)
			isNothing(t, before()+"\x02"+row("\x01\x01\x02")+bad+"\x01\x01\x02\x00"+more)
			isNothing(t, before()+"\x01"+row("\x01"+bad+"\x02")+"\x00"+more)
			isNothing(t, before()+"\x01"+row("\x01\x01"+bad)+"\x00"+more)
		}
	}
}

// TestALeadingZeroDigit: the same bytes are read without it.
func TestALeadingZeroDigit(t *testing.T) {
	e := entry.Write(noop)
	for _, x := range []struct{ front, back string }{
		{"\x03\x01\x02\x01\x01\x01\x01", "\x07\x00\x00\x00\x00\x00"}, // the Round
		{before() + "\x01", "\x03" + e + "\x04body"},                 // the length of an Entry
		{before() + "\x01\x03" + e, "\x04body"},                      // of the Body
	} {
		if !isReadAsItWasWritten(t, x.front+x.back) {
			t.Errorf("%x is not read", x.front+x.back)
		}
		isNothing(t, x.front+"\x80"+x.back)
	}
}

func TestNumbersOfEntriesThatAreNotThoseOfWhatFollows(t *testing.T) {
	for _, e := range validEntries()[:6] {
		for many := range 10 {
			rows := strings.Repeat(row(entry.Write(e)), many)
			for n := range 256 {
				want := n == many && n <= 8
				if is := isReadAsItWasWritten(t, before()+octet(uint8(n))+rows+"\x04body"); is != want {
					t.Errorf("%d Entries of Kind %d, said to be %d: %v", many, e.Kind, n, is)
				}
			}
		}
	}
	// No more than eight, even if as many follow as are told.
	for n := 9; n < 256; n++ {
		isNothing(t, before()+octet(uint8(n))+strings.Repeat("\x03\x01\x01\x02", n)+"\x00")
	}
}

func TestRowsThatAreNoEntries(t *testing.T) {
	for n := 1; n <= 8; n++ {
		for at := range n {
			rows := make([]string, n)
			for i := range rows {
				rows[i] = row(entry.Write(validEntries()[i]))
			}
			e := entry.Write(validEntries()[at])
			for _, text := range []string{
				"", "\x00", e + "\x00", e + "\x01", e + "\xff", e + e, "\x00" + e, e[:len(e)-1], e[1:], row(e),
				"\x00\x01\x01", "\x06\x01\x01", "\x01\x00\x01", "\x01\x01\x00", "\x02\x01\x01\x01\x20", "\x02\x01\x01\x00", "\x03\x01\x01\x0412345678\x00", "\x05\x01\x01\x00",
			} {
				rows := slices.Clone(rows)
				rows[at] = row(text)
				isNothing(t, before()+octet(uint8(n))+strings.Join(rows, "")+"\x04body")
			}
		}
	}
}

func TestLengthsThatAreNotThoseOfWhatFollows(t *testing.T) {
	lengths := append(slices.Clone(numbers), 3, 4, 126, 130, 299, 300, 301, 1<<31-1, 1<<31, math.MaxUint64-12, math.MaxUint64-3)
	for _, many := range []int{0, 1, 2, 127, 128, 129, 300} {
		for _, n := range lengths {
			if is := isReadAsItWasWritten(t, before()+"\x00"+digits(n)+strings.Repeat("b", many)); is != (n == uint64(many)) {
				t.Errorf("a Body of %d bytes, said to have %d: %v", many, n, is)
			}
		}
	}
	for _, e := range validEntries() {
		s := entry.Write(e)
		for _, n := range append(lengths, uint64(len(s)-1), uint64(len(s)), uint64(len(s)+1)) {
			want := n == uint64(len(s))
			for _, s := range []string{before() + "\x01" + digits(n) + s + "\x00", before() + "\x02" + row(s) + digits(n) + s + "\x00"} {
				if is := isReadAsItWasWritten(t, s); is != want {
					t.Errorf("%.300v, said to have %d bytes: %v", e, n, is)
				}
			}
		}
	}
}

func TestEncodingsStandAlone(t *testing.T) {
	isNothing(t, "")
	for _, m := range validMsgs() {
		s := msg.Write(m)
		for i := range min(len(s), 400) {
			isNothing(t, s[:i])
			isNothing(t, s[:len(s)-1-i])
		}
		isNothing(t, s[:len(s)/2])
		isNothing(t, s+s)
		if len(s) < 1000 {
			for b := range 256 {
				isNothing(t, s+octet(uint8(b)))
			}
		}
		for _, tail := range []string{"\x00\x00", ffs, "\x81\x00", "\x01b", strings.Repeat("\x00", 13)} {
			isNothing(t, s+tail)
		}
	}
}

func TestNoEncodingBeginsWithAnother(t *testing.T) {
	of := map[string]api.Msg{}
	for _, m := range validMsgs() {
		s := msg.Write(m)
		if other, had := of[s]; had && !equal(other, m) {
			t.Fatalf("%.300v and %.300v: %.200x", other, m, s)
		}
		of[s] = m
	}
	all := slices.Sorted(maps.Keys(of))
	for i := 1; i < len(all); i++ {
		// What begins with a string stands right behind it in this order.
		if strings.HasPrefix(all[i], all[i-1]) {
			t.Fatalf("%.200x is a proper prefix of %.200x", all[i-1], all[i])
		}
	}
}

func FuzzRead(f *testing.F) {
	for _, m := range validMsgs() {
		if s := msg.Write(m); len(s) < 200 {
			f.Add(s)
		}
	}
	f.Fuzz(func(t *testing.T, s string) {
		isReadAsItWasWritten(t, s)
	})
}
