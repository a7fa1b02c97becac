package nat

import "frisket/api"

// Shift answers a number times a power of 2.
func Shift(a []uint32, n int) []uint32 {
	switch {
	case n < -api.MaxShift || n > api.MaxShift:
		return nil
	case n < 0:
		return shiftDown(cut(a), -n)
	}
	return shiftUp(cut(a), n)
}

// shiftUp answers a times 2^n.
func shiftUp(a []uint32, n int) []uint32 {
	words := n / wordBits
	out := make([]uint32, words+len(a)+1)
	copy(out[words:], a)
	moveUp(out[words:], n%wordBits)
	return cut(out)
}

// shiftDown answers how often 2^n is in a.
func shiftDown(a []uint32, n int) []uint32 {
	words := n / wordBits
	if words >= len(a) {
		return nil
	}
	out := make([]uint32, len(a)-words)
	copy(out, a[words:])
	moveDown(out, n%wordBits)
	return cut(out)
}

// moveUp moves a's bits up by n, less than a word; those that leave its last word are lost.
func moveUp(a []uint32, n int) {
	below := uint32(0)
	for i, x := range a {
		a[i] = x<<n | below>>(wordBits-n)
		below = x
	}
}

// moveDown moves a's bits down by n, less than a word; those that leave its first word are lost.
func moveDown(a []uint32, n int) {
	above := uint32(0)
	for i := len(a) - 1; i >= 0; i-- {
		x := a[i]
		a[i] = x>>n | above<<(wordBits-n)
		above = x
	}
}
