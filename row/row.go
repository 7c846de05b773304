// Package row encodes the rows of layer 8, of which files on a disk consist: texts with their lengths and their checksums, so that a part of one is told from the whole. See shared/doc/08-wal.md.
package row

import (
	"strings"

	"wapentake/num"
	"wapentake/sum"
)

// checkWidth is how many bytes of a row its checksum has.
const checkWidth = 4

// Write returns the row of a text.
func Write(t *sum.Table, text string) string {
	return num.V(uint64(len(text))) + num.U(uint64(t.Of(text)), checkWidth) + text
}

// Read returns the text with whose row s begins, and how many bytes the row has.
func Read(t *sum.Table, s string) (text string, size int, ok bool) {
	length, head, ok := num.ReadV(s)
	if !ok {
		return "", 0, false
	}
	check, ok := num.ReadU(s[head:], checkWidth)
	head += checkWidth
	// The length is held against what is left, not added to head: a sum could wrap round.
	if !ok || length > uint64(len(s)-head) {
		return "", 0, false
	}
	size = head + int(length)
	text = s[head:size]
	if uint64(t.Of(text)) != check {
		return "", 0, false
	}
	// A piece of s would share its memory with s.
	return strings.Clone(text), size, true
}
