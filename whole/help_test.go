package whole_test

import (
	"math/big"
	"slices"
	"testing"

	"frisket/api"
)

const top = 1<<32 - 1 // the greatest word

// w answers a number by its parts, just as they are given.
func w(neg bool, abs ...uint32) api.Whole {
	return api.Whole{Neg: neg, Abs: abs}
}

// edges are numbers of both signs on which a call may stumble: 0 in each of its forms, words of 0 at the end, and what is at, below and above 2^31, 2^32, 2^63 and 2^64.
func edges() []api.Whole {
	var out []api.Whole
	for _, abs := range [][]uint32{
		nil, {}, {0}, {0, 0, 0},
		{1}, {1, 0}, {2}, {3}, {7}, {10}, {10, 0, 0}, {1000000000},
		{1<<31 - 1}, {1 << 31}, {1<<31 + 1}, {top - 1}, {top}, {top, 0},
		{0, 1}, {1, 1}, {0, 1, 0}, {top, 1<<31 - 1}, {top - 1, 1<<31 - 1}, {0, 1 << 31}, {1, 1 << 31}, {top, 1<<31 - 1, 0},
		{top, top}, {top, top, 0}, {0, 0, 1}, {1, 0, 1}, {0, 0, 1, 0, 0}, {7, 0, 0, 0, 5}, {top, top, top, top, top, top},
	} {
		out = append(out, w(false, abs...), w(true, abs...))
	}
	return out
}

// dice answers the same numbers each time.
type dice uint64

func (d *dice) roll() uint32 {
	*d = *d*6364136223846793005 + 1442695040888963407
	return uint32(*d >> 32)
}

// number answers one of either sign, and of up to most words, many of them with all bits set or none.
func (d *dice) number(most int) api.Whole {
	out := w(d.roll()%2 == 0, make([]uint32, int(d.roll())%(most+1))...)
	for i := range out.Abs {
		switch d.roll() % 4 {
		case 0:
			out.Abs[i] = 0
		case 1:
			out.Abs[i] = top
		default:
			out.Abs[i] = d.roll()
		}
	}
	return out
}

// numbers answers some of them.
func (d *dice) numbers(n, most int) []api.Whole {
	out := make([]api.Whole, n)
	for i := range out {
		out[i] = d.number(most)
	}
	return out
}

// worth answers what a number is worth, by the library's own reckoning.
func worth(a api.Whole) *big.Int {
	out := new(big.Int)
	for i := len(a.Abs) - 1; i >= 0; i-- {
		out.Lsh(out, 32)
		out.Or(out, big.NewInt(int64(a.Abs[i])))
	}
	if a.Neg {
		out.Neg(out)
	}
	return out
}

// is tells of a if it isn't what it is to be worth, or isn't of the one form that is answered.
func is(t *testing.T, what string, a api.Whole, want *big.Int) {
	t.Helper()
	if n := len(a.Abs); n > 0 && a.Abs[n-1] == 0 {
		t.Errorf("%s: a word of 0 at the end of %v", what, a)
	} else if n == 0 && a.Neg {
		t.Errorf("%s: a 0 with a sign", what)
	}
	if worth(a).Cmp(want) != 0 {
		t.Errorf("%s: %v, not %v", what, worth(a), want)
	}
}

// same tells if two are one number, and of one form.
func same(a, b api.Whole) bool {
	return a.Neg == b.Neg && slices.Equal(a.Abs, b.Abs)
}

// zero tells if a is what stands beside an error.
func zero(a api.Whole) bool {
	return !a.Neg && len(a.Abs) == 0
}
