package cmd_test

import (
	"maps"
	"math"
	"math/rand"
	"reflect"
	"slices"
	"strings"
	"testing"
	"unsafe"

	"wapentake/api"
)

const ffs = "\xff\xff\xff\xff\xff\xff\xff\xff"

// numbers are those at the edges of a byte, of a digit, of an amount and of what there is.
var numbers = []uint64{0, 1, 127, 128, 255, 256, 16383, 16384, math.MaxInt32, math.MaxInt32 + 1, 1 << 32, 1 << 40, 1 << 63, math.MaxUint64}

// notGroups are bytes that the groups of a number do not begin with, whatever follows them.
var notGroups = []string{
	"\x80\x00", "\x80\x01", "\x80\x80\x00", // a leading zero digit
	"\x82" + ffs + "\x7f", "\x81\x80\x80\x80\x80\x80\x80\x80\x80\x80\x00", // above 2^64 - 1
}

// tails are bytes of which none may stand behind an encoding.
var tails = []string{"\x00", "\x01", "\x02\x01k", "\x7f", "\x80", "\x81\x00", "\xff", ffs}

// texts are strings of awkward bytes, at the edges of keys, of values and of a length's digits, and much longer.
func texts() []string {
	ss := []string{"", "k", "\x00", "\x80", "\xff", "\x00\x00\x00", "\xe4\xb8", "\x01k"}
	for _, n := range []int{api.MaxKey, api.MaxKey + 1, api.MaxValue, api.MaxValue + 1, 127, 128, 255, 256, 16384, 1 << 20} {
		ss = append(ss, strings.Repeat("x", n))
	}
	return ss
}

// digits are the groups of n, as chapter 1 defines them.
func digits(n uint64) string {
	s := string([]byte{byte(n % 128)})
	for n /= 128; n > 0; n /= 128 {
		s = string([]byte{byte(n%128 + 128)}) + s
	}
	return s
}

func row(s string) string { return digits(uint64(len(s))) + s }

func octet(n uint8) string { return string([]byte{n}) }

// equal holds values against each other as the rules do: an empty slice is nil, too (R5).
func equal[T any](a, b T) bool {
	return reflect.DeepEqual(withoutEmpty(a), withoutEmpty(b))
}

func withoutEmpty[T any](value T) T {
	v := reflect.ValueOf(&value).Elem()
	for i := range v.NumField() {
		if f := v.Field(i); f.Kind() == reflect.Slice && f.Len() == 0 {
			f.SetZero()
		}
	}
	return value
}

// kind is one of the three kinds of encodings.
type kind[T any] struct {
	name  string
	write func(T) string
	read  func(string) (T, bool)
}

// isEncoding demands that s is the encoding of value, whole and alone.
func (k kind[T]) isEncoding(t *testing.T, value T, s string) {
	t.Helper()
	if got := k.write(value); got != s {
		t.Fatalf("%s: %.200x, not %.200x, for %.300v", k.name, got, s, value)
	}
	if got, ok := k.read(s); !ok || !equal(got, value) {
		t.Fatalf("%s: %.200x read as %.300v, %v, not %.300v", k.name, s, got, ok, value)
	}
}

// isNothing demands that s is no encoding.
func (k kind[T]) isNothing(t *testing.T, s string) {
	t.Helper()
	if got, ok := k.read(s); ok || !reflect.ValueOf(got).IsZero() {
		t.Fatalf("%s: %.200x read as %.300v, %v", k.name, s, got, ok)
	}
}

// standsAlone demands that no proper prefix of an encoding is one, nor anything that it is a proper prefix of.
func (k kind[T]) standsAlone(t *testing.T, s string) {
	t.Helper()
	for i := range min(len(s), 400) {
		k.isNothing(t, s[:i])
		k.isNothing(t, s[:len(s)-1-i])
	}
	for _, tail := range tails {
		k.isNothing(t, s+tail)
	}
	k.isNothing(t, s+s)
}

// isReadAsItWasWritten demands that s is no encoding, or the encoding of what is read; it reports which.
func (k kind[T]) isReadAsItWasWritten(t *testing.T, s string) bool {
	t.Helper()
	value, ok := k.read(s)
	if !ok && !reflect.ValueOf(value).IsZero() {
		t.Fatalf("%s: %x read as %v, %v", k.name, s, value, ok)
	}
	if ok && k.write(value) != s {
		t.Fatalf("%s: %x read as %v, written as %x", k.name, s, value, k.write(value))
	}
	return ok
}

// howManyOf returns how many of all strings of at most most bytes, each byte out of letters, are encodings.
func (k kind[T]) howManyOf(t *testing.T, letters string, most int) int {
	t.Helper()
	count, b := 0, make([]byte, most)
	var from func(at int)
	from = func(at int) {
		if k.isReadAsItWasWritten(t, string(b[:at])) {
			count++
		}
		for i := 0; at < most && i < len(letters); i++ {
			b[at] = letters[i]
			from(at + 1)
		}
	}
	from(0)
	return count
}

// staysOneToOne demands that encodings that were bent anyhow are none, or those of what is read.
func (k kind[T]) staysOneToOne(t *testing.T, encodings []string) {
	t.Helper()
	random := rand.New(rand.NewSource(3))
	was := 0
	for range 200000 {
		if k.isReadAsItWasWritten(t, bent(random, encodings[random.Intn(len(encodings))])) {
			was++
		}
	}
	if was < 2000 {
		t.Errorf("%s: of the bent encodings only %d are some", k.name, was)
	}
}

// bent changes, drops or puts in up to three bytes of s.
func bent(random *rand.Rand, s string) string {
	b := []byte(s)
	for range 1 + random.Intn(3) {
		at := random.Intn(len(b) + 1)
		n := byte(random.Intn(256))
		if random.Intn(2) == 0 {
			n %= 13
		}
		switch {
		case random.Intn(3) == 0:
			b = slices.Insert(b, at, n)
		case at == len(b):
		case random.Intn(2) == 0:
			b = slices.Delete(b, at, at+1)
		default:
			b[at] = n
		}
	}
	return string(b)
}

// noneBeginsWithAnother demands that different values have different encodings, of which none is a proper prefix of another one.
func (k kind[T]) noneBeginsWithAnother(t *testing.T, values []T) {
	t.Helper()
	of := map[string]T{}
	for _, value := range values {
		s := k.write(value)
		if other, had := of[s]; had && !equal(other, value) {
			t.Fatalf("%s: %.300v and %.300v: %.200x", k.name, other, value, s)
		}
		of[s] = value
	}
	all := slices.Sorted(maps.Keys(of))
	for i := 1; i < len(all); i++ {
		// What begins with a string stands right behind it in this order.
		if strings.HasPrefix(all[i], all[i-1]) {
			t.Fatalf("%s: %.200x is a proper prefix of %.200x", k.name, all[i-1], all[i])
		}
	}
}

// sharesMemory reports whether any string of value lies in the bytes of s.
func sharesMemory(value reflect.Value, s string) bool {
	switch value.Kind() {
	case reflect.String:
		from := uintptr(unsafe.Pointer(unsafe.StringData(s)))
		at := uintptr(unsafe.Pointer(unsafe.StringData(value.String())))
		return value.Len() > 0 && at >= from && at < from+uintptr(len(s))
	case reflect.Struct:
		for i := range value.NumField() {
			if sharesMemory(value.Field(i), s) {
				return true
			}
		}
	case reflect.Slice:
		for i := range value.Len() {
			if sharesMemory(value.Index(i), s) {
				return true
			}
		}
	}
	return false
}

// fill sets every field of a struct to something that is not zero.
func fill(v reflect.Value) {
	for i := range v.NumField() {
		fillField(v.Field(i))
	}
}

func fillField(f reflect.Value) {
	switch f.Kind() {
	case reflect.String:
		f.SetString("v")
	case reflect.Uint8, reflect.Uint64:
		f.SetUint(3)
	case reflect.Int:
		f.SetInt(3)
	case reflect.Array:
		f.Index(f.Len() - 1).SetUint(7)
	case reflect.Slice:
		f.Set(reflect.ValueOf([]api.Part{{Op: api.CPut, Key: "k", Value: "v"}, {Op: api.CDelete, Key: "k"}}))
	}
}
