package conf_test

import "wapentake/api"

type row = [api.MaxNodes + 1]uint64

// set is a membership by the chapter's words: the nodes that are members.
type set map[int]bool

// worth is what each node's bit counts in a membership.
var worth = []int{1: 1, 2: 2, 3: 4, 4: 8, 5: 16}

// members returns the nodes whose bits are set in m.
func members(m uint8) set {
	s := set{}
	for node := 1; node <= 5; node++ {
		if int(m)/worth[node]%2 == 1 {
			s[node] = true
		}
	}
	return s
}

// bitsOf returns the membership whose members are s, with no other bits.
func bitsOf(s set) uint8 {
	sum := 0
	for node := range s {
		sum += worth[node]
	}
	return uint8(sum)
}

// both returns how many nodes are in a and in b.
func both(a, b set) int {
	n := 0
	for node := range a {
		if b[node] {
			n++
		}
	}
	return n
}

// apart returns how many nodes are in one of a and b only.
func apart(a, b set) int {
	return len(a) + len(b) - 2*both(a, b)
}

// reaching returns the members of m whose marks are n or more, as bits.
func reaching(m uint8, marks row, n uint64) uint8 {
	s := set{}
	for node := range members(m) {
		if marks[node] >= n {
			s[node] = true
		}
	}
	return bitsOf(s)
}

// isMajority reports whether the nodes of votes that are members of m are more than half of its members.
func isMajority(m, votes uint8) bool {
	return both(members(m), members(votes))*2 > len(members(m))
}

// levelByTrial returns the greatest of the members' marks that a majority of m reaches, or 0.
func levelByTrial(m uint8, marks row) uint64 {
	var best uint64
	for node := range members(m) {
		if n := marks[node]; n > best && isMajority(m, reaching(m, marks, n)) {
			best = n
		}
	}
	return best
}
