package frame_test

import (
	"maps"
	"math"
	"math/rand"
	"reflect"
	"slices"
	"strings"
	"testing"
	"unsafe"

	"wapentake/api"
)

const ffs = "\xff\xff\xff\xff\xff\xff\xff\xff"

// numbers are those at both ends of the range, and at the edges of a byte, of a digit and of what is promised.
var numbers = []uint64{0, 1, 2, 127, 128, 129, 255, 256, 16383, 16384, math.MaxInt32, math.MaxInt32 + 1, 1 << 32, 1 << 40, 1<<56 - 1, 1 << 56, 1<<63 - 1, 1 << 63, math.MaxUint64 - 1, math.MaxUint64}

// notGroups are bytes that the groups of a number do not begin with, whatever follows them.
var notGroups = []string{
	"\x80\x00", "\x80\x01", "\x80\x80\x00", "\x80\x81\x00", // a leading zero digit
	"\x82" + ffs + "\x7f", "\x81\x80\x80\x80\x80\x80\x80\x80\x80\x80\x00", // above 2^64 - 1
}

// tails are bytes of which none may stand behind an encoding.
var tails = []string{"\x00\x00", "\x01k", "\x02\x01k", "\x81\x00", "\x00\x00\x00\x00", ffs, "\x0112345678\x08\x00\x00\x01k"}

// texts are strings of awkward bytes, at the edges of keys, of values and of a length's digits, and much longer.
func texts() []string {
	ss := []string{"", "k", "\x00", "\x80", "\xff", "\x00\x00\x00", "\xe4\xb8", "\x01k"}
	for _, n := range []int{api.MaxKey, api.MaxKey + 1, api.MaxValue, api.MaxValue + 1, 127, 128, 255, 256, 16384, 1 << 20} {
		ss = append(ss, strings.Repeat("x", n))
	}
	return ss
}

// digits are the groups of n, as chapter 1 defines them.
func digits(n uint64) string {
	s := octet(uint8(n % 128))
	for n /= 128; n > 0; n /= 128 {
		s = octet(uint8(n%128+128)) + s
	}
	return s
}

func octet(n uint8) string { return string([]byte{n}) }

// equal holds values against each other as the rules do: an empty slice is nil, too (R5).
func equal[T any](a, b T) bool {
	dropEmpty(reflect.ValueOf(&a).Elem())
	dropEmpty(reflect.ValueOf(&b).Elem())
	return reflect.DeepEqual(a, b)
}

func dropEmpty(v reflect.Value) {
	switch v.Kind() {
	case reflect.Slice:
		if v.Len() == 0 {
			v.SetZero()
		}
	case reflect.Struct:
		for i := range v.NumField() {
			dropEmpty(v.Field(i))
		}
	}
}

// isZero reports whether a value has nothing in any field.
func isZero[T any](value T) bool {
	var zero T
	return equal(value, zero)
}

// kind is one of the two kinds of encodings; byHand tells the encoding of a value, or the empty string, by the chapter's words.
type kind[T any] struct {
	name   string
	write  func(T) string
	read   func(string) (T, bool)
	byHand func(T) string
}

// isAsByHand demands of any value that it is written as by hand, and read again if it is valid; it reports whether it is.
func (k kind[T]) isAsByHand(t *testing.T, value T) bool {
	t.Helper()
	want := k.byHand(value)
	if got := k.write(value); got != want {
		t.Fatalf("%s: %.200x, not %.200x, for %.300v", k.name, got, want, value)
	}
	if want == "" {
		return false
	}
	if got, ok := k.read(want); !ok || !equal(got, value) {
		t.Fatalf("%s: %.200x read as %.300v, %v, not %.300v", k.name, want, got, ok, value)
	}
	return true
}

// isEncoding demands that s is the encoding of value.
func (k kind[T]) isEncoding(t *testing.T, value T, s string) {
	t.Helper()
	if !k.isAsByHand(t, value) || k.byHand(value) != s {
		t.Fatalf("%s: %.200x, not %.200x, for %.300v", k.name, k.byHand(value), s, value)
	}
}

// isNothing demands that s is no encoding.
func (k kind[T]) isNothing(t *testing.T, s string) {
	t.Helper()
	if got, ok := k.read(s); ok || !isZero(got) {
		t.Fatalf("%s: %.200x read as %.300v, %v", k.name, s, got, ok)
	}
}

// isReadAsItWasWritten demands that s is no encoding, or the encoding of what is read; it reports which.
func (k kind[T]) isReadAsItWasWritten(t *testing.T, s string) bool {
	t.Helper()
	value, ok := k.read(s)
	if !ok && !isZero(value) {
		t.Fatalf("%s: %x read as %v, %v", k.name, s, value, ok)
	}
	if ok && (k.byHand(value) != s || k.write(value) != s) {
		t.Fatalf("%s: %x read as %v, written as %x, by hand as %x", k.name, s, value, k.write(value), k.byHand(value))
	}
	return ok
}

// standsAlone demands that no proper prefix of an encoding is one, nor anything that it is a proper prefix of.
func (k kind[T]) standsAlone(t *testing.T, s string) {
	t.Helper()
	for i := range min(len(s), 300) {
		k.isNothing(t, s[:i])
		k.isNothing(t, s[:len(s)-1-i])
	}
	k.isNothing(t, s[:len(s)/2])
	if len(s) < 1000 {
		for b := range 256 {
			k.isNothing(t, s+octet(uint8(b)))
		}
	}
	for _, tail := range tails {
		k.isNothing(t, s+tail)
	}
	k.isNothing(t, s+s)
}

// noneBeginsWithAnother demands that different values have different encodings, of which none is a proper prefix of another one.
func (k kind[T]) noneBeginsWithAnother(t *testing.T, values []T) {
	t.Helper()
	of := map[string]T{}
	for _, value := range values {
		s := k.write(value)
		if other, had := of[s]; had && !equal(other, value) {
			t.Fatalf("%s: %.300v and %.300v: %.200x", k.name, other, value, s)
		}
		of[s] = value
	}
	all := slices.Sorted(maps.Keys(of))
	for i := 1; i < len(all); i++ {
		// What begins with a string stands right behind it in this order.
		if strings.HasPrefix(all[i], all[i-1]) {
			t.Fatalf("%s: %.200x is a proper prefix of %.200x", k.name, all[i-1], all[i])
		}
	}
}

// everyShort calls f with each string of at most most bytes out of letters, and tells for how many f reports true.
func everyShort(letters string, most int, f func(s string) bool) int {
	count, b := 0, make([]byte, most)
	var from func(at int)
	from = func(at int) {
		if f(string(b[:at])) {
			count++
		}
		for i := 0; at < most && i < len(letters); i++ {
			b[at] = letters[i]
			from(at + 1)
		}
	}
	from(0)
	return count
}

// bent changes, drops or puts in up to three bytes of s.
func bent(random *rand.Rand, s string) string {
	b := []byte(s)
	for range 1 + random.Intn(3) {
		at := random.Intn(len(b) + 1)
		n := byte(random.Intn(256))
		if random.Intn(2) == 0 {
			n %= 13
		}
		switch {
		case random.Intn(3) == 0:
			b = slices.Insert(b, at, n)
		case at == len(b):
		case random.Intn(2) == 0:
			b = slices.Delete(b, at, at+1)
		default:
			b[at] = n
		}
	}
	return string(b)
}

// shortEncodings are those of the values that have few bytes.
func (k kind[T]) shortEncodings(values []T) []string {
	var all []string
	for _, value := range values {
		if s := k.write(value); s != "" && len(s) < 150 {
			all = append(all, s)
		}
	}
	return all
}

// sharesMemory reports whether any string of value lies in the bytes of s, or s in its bytes; strings of one byte all lie in the same place.
func sharesMemory(value reflect.Value, s string) bool {
	switch value.Kind() {
	case reflect.String:
		return liesIn(value.String(), s) || liesIn(s, value.String())
	case reflect.Struct:
		for i := range value.NumField() {
			if sharesMemory(value.Field(i), s) {
				return true
			}
		}
	case reflect.Slice:
		for i := range value.Len() {
			if sharesMemory(value.Index(i), s) {
				return true
			}
		}
	}
	return false
}

func liesIn(a, b string) bool {
	from := uintptr(unsafe.Pointer(unsafe.StringData(b)))
	at := uintptr(unsafe.Pointer(unsafe.StringData(a)))
	return len(a) > 1 && len(b) > 1 && at >= from && at < from+uintptr(len(b))
}

// withOneField returns the values of which one single field, or one single byte of an array, has something in it: several times with something else.
func withOneField[T any]() []T {
	var all []T
	var zero T
	for i := range reflect.TypeOf(zero).NumField() {
		for _, set := range setters(reflect.ValueOf(zero).Field(i)) {
			var value T
			set(reflect.ValueOf(&value).Elem().Field(i))
			all = append(all, value)
		}
	}
	return all
}

// setters put into a field like f, one after the other, several things that are not zero.
func setters(f reflect.Value) []func(reflect.Value) {
	var all []func(reflect.Value)
	switch f.Kind() {
	case reflect.Uint8, reflect.Uint64:
		for bit := range f.Type().Bits() {
			all = append(all, func(f reflect.Value) { f.SetUint(1 << bit) })
		}
	case reflect.Int:
		for _, n := range []int64{1, -1, 255, 256, math.MaxInt32, 1 << 32, math.MaxInt64, math.MinInt64} {
			all = append(all, func(f reflect.Value) { f.SetInt(n) })
		}
	case reflect.String:
		for _, s := range texts()[1:] {
			all = append(all, func(f reflect.Value) { f.SetString(s) })
		}
	case reflect.Array:
		for i := range f.Len() {
			for _, n := range []uint64{1, 255} {
				all = append(all, func(f reflect.Value) { f.Index(i).SetUint(n) })
			}
		}
	case reflect.Slice:
		for _, n := range []int{1, 2, 256} {
			all = append(all, func(f reflect.Value) { f.Set(reflect.MakeSlice(f.Type(), n, n)) })
		}
	}
	return all
}
