package nat

import (
	"math"
	"math/bits"
)

// Div answers how often a number is in another one, and what is left.
func Div(a, b []uint32) ([]uint32, []uint32, bool) {
	a, b = cut(a), cut(b)
	switch {
	case len(b) == 0:
		return nil, nil, false
	case Cmp(a, b) < 0:
		return nil, Trim(a), true
	case len(a) <= 2:
		x, _ := Uint(a)
		y, _ := Uint(b)
		return Of(x / y), Of(x % y), true
	case len(b) == 1:
		often := Trim(a)
		left := divWord(often, b[0])
		return cut(often), Of(uint64(left)), true
	}
	often, left := divWords(a, b)
	return often, left, true
}

// divWord puts in a's place how often d is in it, and answers what is left.
func divWord(a []uint32, d uint32) uint32 {
	left := uint64(0)
	for i := len(a) - 1; i >= 0; i-- {
		left = left<<wordBits | uint64(a[i])
		a[i] = uint32(left / uint64(d))
		left %= uint64(d)
	}
	return uint32(left)
}

// divWords divides a by a b of two words or more, which isn't above it.
func divWords(a, b []uint32) ([]uint32, []uint32) {
	// A divisor whose highest bit is set keeps each guess at a word at most 1 too great.
	n := bits.LeadingZeros32(b[len(b)-1])
	left := make([]uint32, len(a)+1)
	copy(left, a)
	moveUp(left, n)
	d := make([]uint32, len(b))
	copy(d, b)
	moveUp(d, n)
	often := make([]uint32, len(a)-len(b)+1)
	for i := len(often) - 1; i >= 0; i-- {
		often[i] = takeAll(left[i:i+len(d)+1], d)
	}
	moveDown(left, n)
	return cut(often), cut(left)
}

// takeAll takes d off left as often as it is in it, and answers how often that is: less than 2^32 times, as left without its lowest word is below d.
func takeAll(left, d []uint32) uint32 {
	q := guess(left, d)
	if takeTimes(left, d, q) {
		addIn(left, d) // what this loses is what was borrowed
		q--
	}
	return q
}

// guess answers how often d seems to be in left, by the highest words of both: as often as it is, or once more.
func guess(left, d []uint32) uint32 {
	n := len(d)
	head := uint64(left[n])<<wordBits | uint64(left[n-1])
	top := uint64(d[n-1])
	q, rest := head/top, head%top
	for q > math.MaxUint32 || q*uint64(d[n-2]) > rest<<wordBits|uint64(left[n-2]) {
		q--
		rest += top
		if rest > math.MaxUint32 { // the next word of d can't make up for that
			break
		}
	}
	return uint32(q)
}

// takeTimes takes d times q off left, whose length is d's and one, and tells if that was too much.
func takeTimes(left, d []uint32, q uint32) bool {
	carry := uint64(0)
	for i, x := range d {
		carry += uint64(x) * uint64(q)
		low, borrow := bits.Sub32(left[i], uint32(carry), 0)
		left[i] = low
		carry = carry>>wordBits + uint64(borrow)
	}
	top := left[len(d)]
	left[len(d)] = top - uint32(carry)
	return uint64(top) < carry
}
