package root_test

import (
	"math/big"
	"slices"
	"testing"
)

const top = 1<<32 - 1 // the greatest word

// edges are numbers on which a call may stumble: 0 in each of its forms, words of 0 at the end, what is at, below and above 2^32, 2^64 and 2^96, and some that are multiples or squares of others.
func edges() [][]uint32 {
	return [][]uint32{
		nil, {}, {0}, {0, 0, 0}, make([]uint32, 400),
		{1}, {1, 0}, {2}, {3}, {4}, {6}, {12}, {18, 0, 0}, {1000000007}, {1 << 31}, {65535}, {65536},
		{top - 1}, {top}, {top, 0, 0}, {0, 1}, {1, 1}, {0, 1, 0}, {1, top - 1},
		{0, 1 << 31}, {top, 1 << 31}, {0, top}, {top - 1, top},
		{top, top}, {top, top, 0}, {0, 0, 1}, {1, 0, 1}, {0, 0, 1, 0, 0}, {1, 2, 1}, {0, 2, 1},
		{0, 1, 1}, {top, 0, 1 << 31}, {0, top, top}, {top, top, top}, {0, top - 1, top, 0}, {0, 0, 0, 1}, {1, 0, top - 1, top},
		{3, 0, 1 << 31}, {1, 0, 1 << 29}, {7, 0, 0, 0, 5}, {0, 0, 0, 0, 0, 0, 1}, {top, top, top, top, top, top, top},
	}
}

// dice answers the same numbers each time.
type dice uint64

func (d *dice) roll() uint32 {
	*d = *d*6364136223846793005 + 1442695040888963407
	return uint32(*d >> 32)
}

// number answers one of up to most words, many of them with all bits set or none.
func (d *dice) number(most int) []uint32 {
	out := make([]uint32, int(d.roll())%(most+1))
	for i := range out {
		switch d.roll() % 4 {
		case 0:
			out[i] = 0
		case 1:
			out[i] = top
		default:
			out[i] = d.roll()
		}
	}
	return out
}

// worth answers what a number is worth, by the library's own reckoning.
func worth(a []uint32) *big.Int {
	out := new(big.Int)
	for i := len(a) - 1; i >= 0; i-- {
		out.Lsh(out, 32)
		out.Or(out, big.NewInt(int64(a[i])))
	}
	return out
}

// words answers the number that is worth v.
func words(v *big.Int) []uint32 {
	var out []uint32
	for left := new(big.Int).Set(v); left.Sign() > 0; left.Rsh(left, 32) {
		out = append(out, uint32(new(big.Int).And(left, big.NewInt(top)).Uint64()))
	}
	return out
}

// power answers n times itself, as often as that.
func power(n, often int) *big.Int {
	return new(big.Int).Exp(big.NewInt(int64(n)), big.NewInt(int64(often)), nil)
}

// is tells of a if it isn't what it is to be worth, or has a word of 0 at its end.
func is(t *testing.T, what string, a []uint32, want *big.Int) {
	t.Helper()
	if !slices.Equal(a, words(want)) {
		t.Errorf("%s: %v, not %v", what, a, words(want))
	}
}
