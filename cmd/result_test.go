package cmd_test

import (
	"math"
	"reflect"
	"slices"
	"strings"
	"testing"

	"wapentake/api"
	"wapentake/cmd"
)

var results = kind[api.Result]{"a result", cmd.WriteResult, cmd.ReadResult}

// resultByHand returns the encoding of a result by the chapter's words.
func resultByHand(r api.Result) string {
	s := octet(r.Code) + digits(r.N) + row(r.Value) + digits(uint64(len(r.Rows)))
	var rows strings.Builder
	for _, x := range r.Rows {
		rows.WriteString(row(x.Key) + row(x.Value) + digits(x.Version))
	}
	return s + rows.String()
}

// someResults are results with everything at the edges in each field.
func someResults() []api.Result {
	all := []api.Result{{}}
	for code := range 256 {
		all = append(all, api.Result{Code: uint8(code)}, api.Result{Code: uint8(code), N: 128, Value: "v", Rows: []api.Row{{Key: "k"}}})
	}
	for _, n := range numbers {
		all = append(all, api.Result{N: n}, api.Result{Rows: []api.Row{{Version: n}, {Key: "k", Value: "v", Version: n}}})
	}
	for _, text := range texts() {
		all = append(all, api.Result{Value: text}, api.Result{Rows: []api.Row{{Key: text}, {Value: text}, {Key: text, Value: text, Version: 1}}})
	}
	for _, n := range []int{2, 16, 127, 128, 129, 256, 257, 16384, 70000} {
		all = append(all, api.Result{Rows: make([]api.Row, n)}, api.Result{Code: 1, N: 1, Value: "v", Rows: slices.Repeat([]api.Row{{Key: "k", Value: "v", Version: 300}}, n)})
	}
	return all
}

func TestResultExamples(t *testing.T) {
	for _, x := range []struct {
		r api.Result
		s string
	}{
		{api.Result{Code: api.ROK, N: 5, Rows: []api.Row{{Key: "k", Value: "v", Version: 7}}}, "\x00\x05\x00\x01\x01k\x01v\x07"},
		{api.Result{}, "\x00\x00\x00\x00"},
		{api.Result{Rows: []api.Row{}}, "\x00\x00\x00\x00"},
		{api.Result{Code: api.ROverQuota, N: 300, Value: "v", Rows: []api.Row{{Key: "k", Value: "w", Version: 7}, {}}}, "\x03\x82\x2c\x01v\x02\x01k\x01w\x07\x00\x00\x00"},
		{api.Result{Code: 255, N: math.MaxUint64}, "\xff\x81" + ffs + "\x7f\x00\x00"},
	} {
		results.isEncoding(t, x.r, x.s)
	}
}

func TestResultsAtTheEdges(t *testing.T) {
	for _, r := range someResults() {
		results.isEncoding(t, r, resultByHand(r))
	}
}

func TestNoEncodingsOfResults(t *testing.T) {
	for _, bad := range notGroups {
		for _, s := range []string{
			"\x00" + bad + "\x00\x00", "\x00\x00" + bad + "v\x00", "\x00\x00\x00" + bad, // N, Value, the number of Rows
			"\x00\x00\x00\x01" + bad + "k\x00\x00", "\x00\x00\x00\x01\x00" + bad + "v\x00", "\x00\x00\x00\x01\x00\x00" + bad,
		} {
			for more := range 3 {
				results.isNothing(t, s+strings.Repeat("\x00", more))
			}
		}
	}
	for _, s := range []string{"", "\x00", "\x00\x00", "\x00\x00\x00", "\x00\x00\x00\x00\x00", "\x00\x00\x01\x00", "\x00\x00\x00\x00\x00\x00\x00"} {
		results.isNothing(t, s)
	}
}

func TestMoreRowsThanFollow(t *testing.T) {
	for _, many := range []int{0, 1, 2, 3, 127, 128, 129, 1000} {
		follows := strings.Repeat("\x01k\x00\x00", many)
		for _, n := range append(numbers, 2, 3, 129, 1000, 1<<24, 1<<31, 1<<61, 1<<62, math.MaxInt64, math.MaxUint64-1) {
			r, ok := cmd.ReadResult("\x00\x00\x00" + digits(n) + follows)
			if ok != (n == uint64(many)) || ok && len(r.Rows) != many || !ok && !equal(r, api.Result{}) {
				t.Errorf("%d Rows, said to be %d: %d, %v", many, n, len(r.Rows), ok)
			}
		}
	}
}

func TestEncodingsOfResultsStandAlone(t *testing.T) {
	all := someResults()
	results.noneBeginsWithAnother(t, all)
	for _, r := range all {
		if len(r.Rows) < 1000 {
			results.standsAlone(t, cmd.WriteResult(r))
		}
	}
}

func TestWhatIsReadAsResults(t *testing.T) {
	for _, c := range []counter{
		{"\x00\x01\x02\x03\x09\x80\x81\xff", 7},
		{"\x00\x01\x02", 11},
	} {
		number, text := c.groups(), c.rows()
		rows := c.none()
		for n := range c.most {
			rows = rows.or(c.just(digits(uint64(n))).then(c.times(n, text.then(text, number))))
		}
		want := c.octets(0, 255).then(number, text, rows).all()
		if got := results.howManyOf(t, c.letters, c.most); got != want || got == 0 {
			t.Errorf("of %x %d strings are encodings, not %d", c.letters, got, want)
		}
	}
}

func TestBentEncodingsOfResults(t *testing.T) {
	var encodings []string
	for _, r := range someResults() {
		if s := cmd.WriteResult(r); len(s) < 100 {
			encodings = append(encodings, s)
		}
	}
	results.staysOneToOne(t, encodings)
}

func TestReadResultSharesNoMemory(t *testing.T) {
	for _, r := range someResults() {
		s := cmd.WriteResult(r)
		got, ok := cmd.ReadResult(s)
		if !ok || sharesMemory(reflect.ValueOf(got), s) {
			t.Fatalf("%.200x shares memory with what is read, or %v", s, !ok)
		}
		if again, _ := cmd.ReadResult(s); len(got.Rows) > 0 {
			got.Rows[0] = api.Row{Version: 9}
			if !equal(again, r) {
				t.Fatalf("a change of one result changed another one: %.300v", again)
			}
		}
	}
}

func TestResultsAreLeftAsTheyAre(t *testing.T) {
	spare := slices.Repeat([]api.Row{{Key: "k", Value: "v", Version: 1}}, 5)
	was := slices.Clone(spare)
	for n := range 5 {
		cmd.WriteResult(api.Result{Rows: spare[:n]})
		if !slices.Equal(spare, was) {
			t.Fatalf("of %d Rows: they became %v", n, spare)
		}
	}
}
