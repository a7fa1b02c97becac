package nat_test

import (
	"math/big"
	"slices"
	"testing"
)

const top = 1<<32 - 1 // the greatest word

// edges are numbers on which a call may stumble: words of 0 at the end, and what is at, below and above 2^32 and 2^64.
func edges() [][]uint32 {
	return [][]uint32{
		nil, {}, {0}, {0, 0, 0},
		{1}, {1, 0}, {2}, {10}, {999999999}, {1000000000}, {1 << 31}, {top - 1},
		{top}, {top, 0, 0}, {0, 1}, {1, 1}, {0, 1, 0},
		{0, 1 << 31}, {top, 1 << 31}, {0, top}, {top - 1, top},
		{top, top}, {top, top, 0}, {0, 0, 1}, {1, 0, 1}, {0, 0, 1, 0, 0},
		{0, 1, 1}, {top, 0, 1 << 31}, {0, top, top}, {top, top, top}, {0, 0, 0, 1},
		{3, 0, 1 << 31}, {1, 0, 1 << 29}, {7, 0, 0, 0, 5}, {0, 0, 0, 0, 0, 0, 1}, {top, top, top, top, top, top, top},
	}
}

// rows answers all rows of n words out of those given.
func rows(n int, words ...uint32) [][]uint32 {
	if n == 0 {
		return [][]uint32{nil}
	}
	var out [][]uint32
	for _, r := range rows(n-1, words...) {
		for _, w := range words {
			out = append(out, append(slices.Clone(r), w))
		}
	}
	return out
}

// dice answers the same numbers each time.
type dice uint64

func (d *dice) roll() uint32 {
	*d = *d*6364136223846793005 + 1442695040888963407
	return uint32(*d >> 32)
}

// number answers one of up to most words, many of them with all bits set or none.
func (d *dice) number(most int) []uint32 {
	out := make([]uint32, int(d.roll())%(most+1))
	for i := range out {
		switch d.roll() % 4 {
		case 0:
			out[i] = 0
		case 1:
			out[i] = top
		default:
			out[i] = d.roll()
		}
	}
	return out
}

// worth answers what a number is worth, by the library's own reckoning.
func worth(a []uint32) *big.Int {
	out := new(big.Int)
	for i := len(a) - 1; i >= 0; i-- {
		out.Lsh(out, 32)
		out.Or(out, big.NewInt(int64(a[i])))
	}
	return out
}

// is tells of a if it isn't what it is to be worth, or has a word of 0 at its end.
func is(t *testing.T, what string, a []uint32, want *big.Int) {
	t.Helper()
	if len(a) > 0 && a[len(a)-1] == 0 {
		t.Errorf("%s: a word of 0 at the end of %v", what, a)
	}
	if worth(a).Cmp(want) != 0 {
		t.Errorf("%s: %v, not %v", what, worth(a), want)
	}
}
