package nat

import "math/bits"

// Add answers a sum.
func Add(a, b []uint32) []uint32 {
	a, b = cut(a), cut(b)
	if len(a) < len(b) {
		a, b = b, a
	}
	out := make([]uint32, len(a)+1)
	copy(out, a)
	addIn(out, b)
	return cut(out)
}

// Sub answers what is left of a number.
func Sub(a, b []uint32) ([]uint32, bool) {
	if Cmp(a, b) < 0 {
		return nil, false
	}
	out := Trim(a)
	takeOff(out, cut(b))
	return cut(out), true
}

// Mul answers a product.
func Mul(a, b []uint32) []uint32 {
	a, b = cut(a), cut(b)
	out := make([]uint32, len(a)+len(b))
	for i, x := range b {
		out[i+len(a)] = addTimes(out[i:], a, x)
	}
	return cut(out)
}

// addIn adds b into a, which isn't shorter; what goes beyond a's last word is lost.
func addIn(a, b []uint32) {
	carry := uint32(0)
	for i, x := range b {
		a[i], carry = bits.Add32(a[i], x, carry)
	}
	for i := len(b); i < len(a) && carry != 0; i++ {
		a[i], carry = bits.Add32(a[i], 0, carry)
	}
}

// takeOff takes b off a, which isn't below it.
func takeOff(a, b []uint32) {
	borrow := uint32(0)
	for i, x := range b {
		a[i], borrow = bits.Sub32(a[i], x, borrow)
	}
	for i := len(b); borrow != 0; i++ {
		a[i], borrow = bits.Sub32(a[i], 0, borrow)
	}
}

// addTimes adds b times x into a, and answers the word that goes beyond b's length.
func addTimes(a, b []uint32, x uint32) uint32 {
	carry := uint64(0)
	for i, y := range b {
		carry += uint64(x)*uint64(y) + uint64(a[i]) // at most 2^64 - 1, as carry is below 2^32
		a[i] = uint32(carry)
		carry >>= wordBits
	}
	return uint32(carry)
}
