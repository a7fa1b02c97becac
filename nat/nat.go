// Package nat is layer 1: natural numbers of any size, as lists of words of 32 bits, the lowest first.
package nat

import "math/bits"

const wordBits = 32

// Trim answers a number without words of 0 at its end.
func Trim(a []uint32) []uint32 {
	a = cut(a)
	if len(a) == 0 {
		return nil
	}
	out := make([]uint32, len(a))
	copy(out, a)
	return out
}

// Of answers a number.
func Of(v uint64) []uint32 {
	if v == 0 {
		return nil
	}
	out := make([]uint32, (bits.Len64(v)+wordBits-1)/wordBits)
	switch len(out) {
	case 2:
		out[1] = uint32(v >> wordBits)
		fallthrough
	case 1:
		out[0] = uint32(v)
	}
	return out
}

// Uint answers a number that is below 2^64.
func Uint(a []uint32) (uint64, bool) {
	a = cut(a)
	v := uint64(0)
	switch len(a) {
	case 2:
		v = uint64(a[1]) << wordBits
		fallthrough
	case 1:
		v |= uint64(a[0])
		fallthrough
	case 0:
		return v, true
	}
	return 0, false
}

// Cmp answers how two numbers stand.
func Cmp(a, b []uint32) int {
	a, b = cut(a), cut(b)
	if len(a) != len(b) {
		return order(len(a) < len(b))
	}
	for i := len(a) - 1; i >= 0; i-- {
		if a[i] != b[i] {
			return order(a[i] < b[i])
		}
	}
	return 0
}

// Bits answers how many bits a number has.
func Bits(a []uint32) int {
	a = cut(a)
	if len(a) == 0 {
		return 0
	}
	return (len(a)-1)*wordBits + bits.Len32(a[len(a)-1])
}

// order answers how two that aren't alike stand.
func order(below bool) int {
	if below {
		return -1
	}
	return 1
}

// cut answers a's own words, not laid elsewhere, without those of 0 at its end; nil of 0.
func cut(a []uint32) []uint32 {
	n := len(a)
	for n > 0 && a[n-1] == 0 {
		n--
	}
	if n == 0 {
		return nil
	}
	return a[:n]
}
