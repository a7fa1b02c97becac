package frac_test

import (
	"math"
	"math/big"
	"slices"
	"testing"

	"frisket/api"
	"frisket/frac"
)

const top = 1<<32 - 1 // the greatest word

// f answers a fraction by its parts, just as they are given.
func f(neg bool, n, d []uint32) api.Frac {
	return api.Frac{N: api.Whole{Neg: neg, Abs: n}, D: d}
}

// above and below are what stands on the two sides of a stroke in what calls may stumble on: 0 in each of its forms, words of 0 at the end, common factors, and what is at, below and above 2^32, 2^63 and 2^64.
func above() [][]uint32 {
	return [][]uint32{
		nil, {}, {0}, {0, 0, 0}, {1}, {1, 0}, {2}, {3}, {6, 0}, {7}, {12}, {1000},
		{top}, {0, 1}, {0, 1, 0, 0}, {top, 1<<31 - 1}, {0, 1 << 31}, {1, 1 << 31}, {top, top}, {0, 0, 6}, {5, 0, 0, 0, 5},
	}
}

func below() [][]uint32 {
	return [][]uint32{
		nil, {}, {0}, {0, 0}, {1}, {1, 0, 0}, {2}, {3, 0}, {4}, {6}, {12}, {7}, {top}, {0, 1}, {top, top}, {0, 0, 4, 0}, {1, 0, 0, 1},
	}
}

// edges are fractions of both signs by all of them.
func edges() []api.Frac {
	var out []api.Frac
	for _, n := range above() {
		for _, d := range below() {
			out = append(out, f(false, n, d), f(true, n, d))
		}
	}
	return out
}

// some are fewer of them, for what goes through pairs.
func some() []api.Frac {
	var out []api.Frac
	for i, a := range edges() {
		if i%7 == 0 || i%17 == 3 {
			out = append(out, a)
		}
	}
	return append(out, api.Frac{}, frac.Int(0), frac.Int(1), frac.Int(-1), of(1, 2), of(-1, 2), of(1, 3), of(-5, 6))
}

// of answers a fraction that is known to be one, not reduced.
func of(n, d int) api.Frac {
	return f(n < 0, []uint32{uint32(max(n, -n))}, []uint32{uint32(d)})
}

// ints are ints at which something changes.
func ints() []int {
	return []int{0, 1, -1, 2, -2, 3, 6, -9, 10, 255, 256, -256, 1<<31 - 1, 1 << 31, -1 << 31, 1<<32 - 1, 1 << 32, -1 << 32, 1<<62 + 1, math.MaxInt - 1, math.MaxInt, math.MinInt, math.MinInt + 1}
}

// dice answers the same numbers each time.
type dice uint64

func (d *dice) roll() uint32 {
	*d = *d*6364136223846793005 + 1442695040888963407
	return uint32(*d >> 32)
}

// words answers up to most words, many of them with all bits set or none.
func (d *dice) words(most int) []uint32 {
	out := make([]uint32, int(d.roll())%(most+1))
	for i := range out {
		switch d.roll() % 4 {
		case 0:
			out[i] = d.roll() % 3
		case 1:
			out[i] = top
		default:
			out[i] = d.roll()
		}
	}
	return out
}

// number answers a fraction of either sign, whose parts have up to most words: some with a D of 0, 1 or a few, some with common factors.
func (d *dice) number(most int) api.Frac {
	out := f(d.roll()%2 == 0, d.words(most), d.words(most))
	switch d.roll() % 6 {
	case 0:
		out.D = []uint32{1}
	case 1:
		out.D = []uint32{1 + d.roll()%12}
	case 2:
		n, m := worth(out), big.NewInt(int64(d.roll()))
		out.N.Abs = list(new(big.Int).Mul(new(big.Int).Abs(n.Num()), m))
		out.D = append(list(new(big.Int).Mul(n.Denom(), m)), 0)
	}
	return out
}

// small answers a fraction of small numbers.
func (d *dice) small() api.Frac {
	return of(int(d.roll()%41)-20, int(d.roll()%13))
}

// size answers what words are worth, by the library's own reckoning.
func size(a []uint32) *big.Int {
	out := new(big.Int)
	for i := len(a) - 1; i >= 0; i-- {
		out.Lsh(out, 32)
		out.Or(out, big.NewInt(int64(a[i])))
	}
	return out
}

// worth answers what a fraction is worth: 0 by a D of 0.
func worth(a api.Frac) *big.Rat {
	d := size(a.D)
	if d.Sign() == 0 {
		return new(big.Rat)
	}
	n := size(a.N.Abs)
	if a.N.Neg {
		n.Neg(n)
	}
	return new(big.Rat).SetFrac(n, d)
}

// list answers the words of a number that isn't below 0.
func list(v *big.Int) []uint32 {
	var out []uint32
	for left := new(big.Int).Set(v); left.Sign() > 0; left.Rsh(left, 32) {
		out = append(out, uint32(new(big.Int).And(left, big.NewInt(top)).Uint64()))
	}
	return out
}

// is tells of a if it isn't, word by word, what is to be answered.
func is(t *testing.T, what string, a api.Frac, want *big.Rat) {
	t.Helper()
	if !same(a, f(want.Sign() < 0, list(new(big.Int).Abs(want.Num())), list(want.Denom()))) {
		t.Errorf("%s: %v, not %v", what, a, want)
	}
}

// isWhole does likewise with a whole number.
func isWhole(t *testing.T, what string, a api.Whole, want *big.Int) {
	t.Helper()
	if a.Neg != (want.Sign() < 0) || !slices.Equal(a.Abs, list(new(big.Int).Abs(want))) {
		t.Errorf("%s: %v, not %v", what, a, want)
	}
}

// same tells if two are one fraction, word by word.
func same(a, b api.Frac) bool {
	return a.N.Neg == b.N.Neg && slices.Equal(a.N.Abs, b.N.Abs) && slices.Equal(a.D, b.D)
}

// zero tells if a is what stands beside an error.
func zero(a api.Frac) bool {
	return !a.N.Neg && len(a.N.Abs) == 0 && len(a.D) == 0
}
