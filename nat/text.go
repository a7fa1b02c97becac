package nat

import (
	"strconv"

	"frisket/api"
)

// A chunk is as many decimal digits as always go into one word.
const (
	chunkDigits = 9
	chunkSize   = 1000000000
	noughts     = "000000000"
)

// Text answers a number in decimal digits.
func Text(a []uint32) string {
	if v, ok := Uint(a); ok {
		return strconv.FormatUint(v, 10)
	}
	var chunks []uint32
	for left := Trim(a); len(left) > 0; left = cut(left) {
		chunks = append(chunks, divWord(left, chunkSize))
	}
	last := len(chunks) - 1
	out := strconv.AppendUint(nil, uint64(chunks[last]), 10)
	for i := last - 1; i >= 0; i-- {
		digits := strconv.FormatUint(uint64(chunks[i]), 10)
		out = append(out, noughts[len(digits):]...)
		out = append(out, digits...)
	}
	return string(out)
}

// Parse answers the number of a text.
func Parse(s string) ([]uint32, api.Errno) {
	switch {
	case len(s) > api.MaxDigits:
		return nil, api.ErrRange
	case !decimal(s):
		return nil, api.ErrForm
	}
	var out []uint32
	first := len(s) % chunkDigits // so that all chunks behind it are whole ones
	out = timesAnd(out, chunkSize, chunk(s[:first]))
	for s = s[first:]; len(s) > 0; s = s[chunkDigits:] {
		out = timesAnd(out, chunkSize, chunk(s[:chunkDigits]))
	}
	return out, api.OK
}

// decimal tells if s is digits, without a nought ahead.
func decimal(s string) bool {
	if s == "" || s[0] == '0' && s != "0" {
		return false
	}
	for _, c := range s {
		if c < '0' || c > '9' {
			return false
		}
	}
	return true
}

// chunk answers the number of digits that go into one word.
func chunk(digits string) uint32 {
	v := uint32(0)
	for _, c := range digits {
		v = v*10 + uint32(c-'0')
	}
	return v
}

// timesAnd puts a times m, and more, in a's place, and a word behind it where it needs one.
func timesAnd(a []uint32, m, more uint32) []uint32 {
	carry := uint64(more)
	for i, x := range a {
		carry += uint64(x) * uint64(m)
		a[i] = uint32(carry)
		carry >>= wordBits
	}
	if carry == 0 {
		return a
	}
	return append(a, uint32(carry))
}
