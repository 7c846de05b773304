// Package num is layer 1: it encodes numbers of a fixed width, numbers as groups, and strings as rows. See shared/doc/01-num.md.
package num

import (
	"math"
	"strings"
)

// maxWidth is how many bytes the widest number has.
const maxWidth = 8

// digitBits is how many bits a digit of a number's groups has; lowDigit masks them, and more marks a byte behind which another digit follows.
const (
	digitBits = 7
	lowDigit  = 1<<digitBits - 1
	more      = 1 << digitBits
)

// U returns n as a number of that width, or the empty string if there is no such width.
func U(n uint64, width int) string {
	if !isWidth(width) {
		return ""
	}
	b := make([]byte, width)
	for i := width - 1; i >= 0; i-- {
		b[i] = byte(n)
		n >>= 8
	}
	return string(b)
}

// ReadU returns the number of that width with which s begins.
func ReadU(s string, width int) (n uint64, ok bool) {
	if !isWidth(width) || len(s) < width {
		return 0, false
	}
	for i := range width {
		n = n<<8 | uint64(s[i])
	}
	return n, true
}

func isWidth(width int) bool {
	return width >= 1 && width <= maxWidth
}

// V returns the groups of the numbers, one number's behind the other's.
func V(ns ...uint64) string {
	var b []byte
	for _, n := range ns {
		b = appendGroups(b, n)
	}
	return string(b)
}

// ReadV returns the number with whose groups s begins, and how many bytes they have.
func ReadV(s string) (n uint64, size int, ok bool) {
	// A first digit 0 behind which another one follows is a leading zero; 0 itself is a single, last digit.
	if s == "" || s[0] == more {
		return 0, 0, false
	}
	for i := range len(s) {
		if n > math.MaxUint64>>digitBits {
			return 0, 0, false
		}
		n = n<<digitBits | uint64(s[i]&lowDigit)
		if s[i]&more == 0 {
			return n, i + 1, true
		}
	}
	return 0, 0, false
}

// S returns the rows of the strings, one behind the other.
func S(ss ...string) string {
	var b []byte
	for _, s := range ss {
		b = appendGroups(b, uint64(len(s)))
		b = append(b, s...)
	}
	return string(b)
}

// ReadS returns the string with whose row s begins, and how many bytes the row has.
func ReadS(s string) (text string, size int, ok bool) {
	n, head, ok := ReadV(s)
	// The length is held against what is left, not added to head: a sum could wrap round.
	if !ok || n > uint64(len(s)-head) {
		return "", 0, false
	}
	size = head + int(n)
	// A piece of s would share its memory with s.
	return strings.Clone(s[head:size]), size, true
}

// appendGroups appends the groups of n to b.
func appendGroups(b []byte, n uint64) []byte {
	shift := uint(0)
	for n>>shift > lowDigit {
		shift += digitBits
	}
	for ; shift > 0; shift -= digitBits {
		b = append(b, byte(n>>shift)|more)
	}
	return append(b, byte(n)&lowDigit)
}
