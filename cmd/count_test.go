package cmd_test

// lengths tells of a set of strings how many have 0, 1, 2 .. bytes. No string of such a set is the beginning of another one, so that two sets one behind the other can be counted by multiplication.
type lengths []int

// then counts the strings that are one of a, followed by one of each of the others.
func (a lengths) then(others ...lengths) lengths {
	for _, b := range others {
		both := make(lengths, len(a))
		for i := range a {
			for j := 0; i+j < len(a); j++ {
				both[i+j] += a[i] * b[j]
			}
		}
		a = both
	}
	return a
}

func (a lengths) or(others ...lengths) lengths {
	sum := append(lengths(nil), a...)
	for _, b := range others {
		for i := range sum {
			sum[i] += b[i]
		}
	}
	return sum
}

func (a lengths) all() int {
	n := 0
	for _, count := range a {
		n += count
	}
	return n
}

// counter counts the strings of at most most bytes, each byte out of letters, that the chapters' words define.
type counter struct {
	letters string
	most    int
}

func (c counter) none() lengths { return make(lengths, c.most+1) }

// nothing counts the empty string.
func (c counter) nothing() lengths {
	n := c.none()
	n[0] = 1
	return n
}

// octets counts the bytes from least to most.
func (c counter) octets(least, most uint8) lengths {
	n := c.none()
	for i := range len(c.letters) {
		if c.letters[i] >= least && c.letters[i] <= most {
			n[1]++
		}
	}
	return n
}

// groups counts those of numbers; most must be too few bytes for one beyond any bound.
func (c counter) groups() lengths {
	last, first, middle := c.octets(0, 127), c.octets(129, 255), c.octets(128, 255)
	sum := last
	for begin := first; begin.all() > 0; begin = begin.then(middle) {
		sum = sum.or(begin.then(last))
	}
	return sum
}

// rows counts those of strings.
func (c counter) rows() lengths {
	sum, any := c.none(), c.nothing()
	for n := range c.most + 1 {
		sum = sum.or(c.just(digits(uint64(n))).then(any))
		any = any.then(c.octets(0, 255))
	}
	return sum
}

// just counts the string s, if it is of these letters.
func (c counter) just(s string) lengths {
	n := c.nothing()
	for i := range len(s) {
		n = n.then(c.octets(s[i], s[i]))
	}
	return n
}

// times counts n strings of a, one behind the other.
func (c counter) times(n int, a lengths) lengths {
	all := c.nothing()
	for range n {
		all = all.then(a)
	}
	return all
}
