package root

import (
	"math/bits"

	"frisket/nat"
)

// steps is a row of divisions, each by what the one ahead left, done in one go. Of numbers a and b they leave two others:
// what a times first[0] and b times first[1] differ by, and what a times second[0] and b times second[1] differ by.
type steps struct {
	first, second [2]uint64 // each below 2^32
	even          bool      // of as many divisions the first one is a's part without b's, the second one b's without a's
}

// nearer answers what a and b come to by some divisions of the greater one, a, by the lesser one, and on: two lesser numbers, the greater one first, with the same common factors. b isn't 0, a has three words or more; neither has any of 0 at its end.
func nearer(a, b []uint32) ([]uint32, []uint32) {
	shift := bits.LeadingZeros32(a[len(a)-1])
	s := foresee(head(a, len(a), shift), head(b, len(a), shift))
	if s.first[1] == 0 { // b is too small for its highest bits to tell much
		_, left, _ := nat.Div(a, b)
		return b, left
	}
	return s.take(a, b)
}

// head answers 64 bits of a: of the three words that end at n, without the highest bits, as many as shift says.
func head(a []uint32, n, shift int) uint64 {
	high := uint64(at(a, n-1))<<wordBits | uint64(at(a, n-2))
	return high<<shift | uint64(at(a, n-3))>>(wordBits-shift)
}

// at answers a word of a: 0 behind its last one.
func at(a []uint32, i int) uint32 {
	if i < len(a) {
		return a[i]
	}
	return 0
}

// foresee answers those divisions that come out alike whatever bits follow behind a's and b's (Collins's condition).
func foresee(a, b uint64) steps {
	s := steps{second: [2]uint64{1, 0}}
	next := [2]uint64{0, 1}
	for b >= next[1] && a-b >= s.second[1]+next[1] {
		often, left := a/b, a%b
		a, b = b, left
		after := [2]uint64{s.second[0] + often*next[0], s.second[1] + often*next[1]}
		s = steps{first: s.second, second: next, even: !s.even}
		next = after
	}
	return s
}

// take answers what the steps leave of a and b: numbers that aren't above b.
func (s steps) take(a, b []uint32) ([]uint32, []uint32) {
	if s.even {
		return less(a, s.first[0], b, s.first[1]), less(b, s.second[1], a, s.second[0])
	}
	return less(b, s.first[1], a, s.first[0]), less(a, s.second[0], b, s.second[1])
}

// less answers a times n without b times m, neither below 0 nor longer than the shorter one of both; n and m are below 2^32.
func less(a []uint32, n uint64, b []uint32, m uint64) []uint32 {
	out := make([]uint32, min(len(a), len(b))) // what goes beyond it on one side, the other side takes away
	up, down, borrow := uint64(0), uint64(0), uint32(0)
	for i := range out {
		up += uint64(a[i]) * n
		down += uint64(b[i]) * m
		out[i], borrow = bits.Sub32(uint32(up), uint32(down), borrow)
		up >>= wordBits
		down >>= wordBits
	}
	return cut(out)
}
