package root

import (
	"math/bits"

	"frisket/nat"
)

// Sqrt answers the greatest number whose square isn't above a.
func Sqrt(a []uint32) []uint32 {
	if small, ok := nat.Uint(a); ok {
		return nat.Of(sqrtSmall(small))
	}
	root := above(a)
again: // each time nearer, and never below the root
	often, _, _ := nat.Div(a, root)
	next := nat.Shift(nat.Add(root, often), -1)
	if nat.Cmp(next, root) < 0 {
		root = next
		goto again
	}
	return root
}

// above answers a number above the root of a, which has more than 64 bits: about the higher half of its bits are the root's.
func above(a []uint32) []uint32 {
	low := nat.Bits(a) / 4
	words, rest := low/wordBits, low%wordBits
	high := nat.Shift(a[2*words:], -2*rest) // words are left out by hand, as Shift goes no further than MaxShift
	out := nat.Shift(nat.Add(Sqrt(high), nat.Of(1)), rest)
	return append(make([]uint32, words), out...)
}

// sqrtSmall answers the greatest number whose square isn't above a.
func sqrtSmall(a uint64) uint64 {
	if a == 0 {
		return 0
	}
	root := uint64(1) << ((bits.Len64(a) + 1) / 2)
again:
	next := (root + a/root) / 2
	if next < root {
		root = next
		goto again
	}
	return root
}

// Square tells if a is some number's square.
func Square(a []uint32) bool {
	root := Sqrt(a)
	return nat.Cmp(nat.Mul(root, root), a) == 0
}

// SqrtInt answers the greatest int whose square isn't above n, and 0 below 0.
func SqrtInt(n int) int {
	if n < 0 {
		return 0
	}
	return int(sqrtSmall(uint64(n)))
}
