package spot_test

import (
	"math"
	"math/big"
	"slices"
	"testing"

	"frisket/api"
)

const top = 1<<32 - 1 // the greatest word

// f answers a fraction by its parts, just as they are given.
func f(neg bool, n, d []uint32) api.Frac {
	return api.Frac{N: api.Whole{Neg: neg, Abs: n}, D: d}
}

// of answers n by d, not reduced.
func of(n, d int) api.Frac {
	return f(n < 0, []uint32{uint32(max(n, -n))}, []uint32{uint32(d)})
}

// at answers the spot x, y.
func at(x, y int) api.Spot {
	return api.Spot{X: of(x, 1), Y: of(y, 1)}
}

// parts are fractions on which calls may stumble: 0 in each of its forms, words of 0 at the end, common factors, one number in several forms, and what is at, below and above 2^32 and 2^64.
func parts() []api.Frac {
	return []api.Frac{
		{}, f(true, []uint32{5}, nil), f(false, []uint32{7, 1}, []uint32{0, 0}), f(true, []uint32{0, 0}, []uint32{9}), of(0, 1),
		of(1, 1), f(false, []uint32{6, 0}, []uint32{6, 0, 0}), of(-1, 1), f(true, []uint32{4}, []uint32{4, 0}), of(2, 1), of(-4, 2),
		of(1, 2), f(false, []uint32{0, 3}, []uint32{0, 6, 0}), of(-6, 4), of(2, 3), of(-1, 3), of(7, 5),
		f(false, []uint32{top}, []uint32{1}), f(true, []uint32{0, 1, 0}, []uint32{1}), f(false, []uint32{top, top}, []uint32{top}), f(true, []uint32{0, 0, 1}, []uint32{3}),
		f(false, []uint32{1}, []uint32{0, 0, 1}), f(true, []uint32{1, 0, 0, 1}, []uint32{top, 7}),
	}
}

// spots are pairs of such parts.
func spots() []api.Spot {
	var out []api.Spot
	l := parts()
	for i, x := range l {
		for _, far := range []int{0, 1, 6, 13} {
			out = append(out, api.Spot{X: x, Y: l[(i+far)%len(l)]})
		}
	}
	return append(out, at(0, 0), at(2, 0), at(1, 1), at(1, -1), at(4, 0), at(-3, -3), at(3, 3))
}

// some are fewer of them, for what goes through threes.
func some() []api.Spot {
	var out []api.Spot
	for i, a := range spots() {
		if i%3 == 0 || i >= 92 {
			out = append(out, a)
		}
	}
	return out
}

// ints are ints at which something changes.
func ints() []int {
	return []int{0, 1, -1, 256, api.MaxCoord, -api.MaxCoord, 1<<30 - 1, 1 << 30, 1<<30 + 1, -1 << 30, -1<<30 - 1, 1 << 31, -1 << 31, 1<<32 + 1, 1 << 62, -1 << 62, math.MaxInt - 1, math.MaxInt, math.MinInt, math.MinInt + 1}
}

// dice answers the same numbers each time.
type dice uint64

func (d *dice) roll() uint32 {
	*d = *d*6364136223846793005 + 1442695040888963407
	return uint32(*d >> 32)
}

// words answers up to most words, many of them with all bits set or none.
func (d *dice) words(most int) []uint32 {
	out := make([]uint32, int(d.roll())%(most+1))
	for i := range out {
		switch d.roll() % 4 {
		case 0:
			out[i] = d.roll() % 3
		case 1:
			out[i] = top
		default:
			out[i] = d.roll()
		}
	}
	return out
}

// part answers a fraction of up to most words, or one of few digits.
func (d *dice) part(most int) api.Frac {
	switch d.roll() % 3 {
	case 0:
		return of(int(d.roll()%21)-10, int(d.roll()%5))
	case 1:
		return f(d.roll()%2 == 0, d.words(most), append(d.words(most), 1+d.roll()%9))
	}
	return f(d.roll()%2 == 0, d.words(most), []uint32{1, 0})
}

// spot answers a spot of such parts.
func (d *dice) spot(most int) api.Spot {
	return api.Spot{X: d.part(most), Y: d.part(most)}
}

// point answers a point of the grid, each of whose parts is at most far from 0.
func (d *dice) point(far int) api.Point {
	return api.Point{X: int(d.roll())%(2*far+1) - far, Y: int(d.roll())%(2*far+1) - far}
}

// size answers what words are worth, by the library's own reckoning.
func size(a []uint32) *big.Int {
	out := new(big.Int)
	for i := len(a) - 1; i >= 0; i-- {
		out.Lsh(out, 32)
		out.Or(out, big.NewInt(int64(a[i])))
	}
	return out
}

// worth answers what a fraction is worth: 0 by a D of 0.
func worth(a api.Frac) *big.Rat {
	d := size(a.D)
	if d.Sign() == 0 {
		return new(big.Rat)
	}
	n := size(a.N.Abs)
	if a.N.Neg {
		n.Neg(n)
	}
	return new(big.Rat).SetFrac(n, d)
}

// pair is a spot in the library's numbers.
type pair struct{ x, y *big.Rat }

func worths(a api.Spot) pair { return pair{worth(a.X), worth(a.Y)} }

func ofPoint(p api.Point) pair {
	return pair{new(big.Rat).SetInt64(int64(p.X)), new(big.Rat).SetInt64(int64(p.Y))}
}

func (a pair) cmp(b pair) int {
	if by := a.x.Cmp(b.x); by != 0 {
		return by
	}
	return a.y.Cmp(b.y)
}

// toward answers a, and t times what leads to b.
func (a pair) toward(b pair, t *big.Rat) pair {
	one := func(from, to *big.Rat) *big.Rat {
		way := new(big.Rat).Sub(to, from)
		return way.Add(from, way.Mul(t, way))
	}
	return pair{one(a.x, b.x), one(a.y, b.y)}
}

// turn answers on which side of the way from a to b there is c.
func turn(a, b, c pair) int {
	cross := func(x0, x1, y0, y1 *big.Rat) *big.Rat {
		x, y := new(big.Rat).Sub(x1, x0), new(big.Rat).Sub(y1, y0)
		return x.Mul(x, y)
	}
	return cross(a.x, b.x, a.y, c.y).Cmp(cross(a.x, c.x, a.y, b.y))
}

// on tells if c is on the way from a to b: on its line, and in the box of its ends.
func on(a, b, c pair) bool {
	within := func(p, q, r *big.Rat) bool {
		return p.Cmp(r)*q.Cmp(r) <= 0
	}
	return turn(a, b, c) == 0 && within(a.x, b.x, c.x) && within(a.y, b.y, c.y)
}

// list answers the words of a number that isn't below 0.
func list(v *big.Int) []uint32 {
	var out []uint32
	for left := new(big.Int).Set(v); left.Sign() > 0; left.Rsh(left, 32) {
		out = append(out, uint32(new(big.Int).And(left, big.NewInt(top)).Uint64()))
	}
	return out
}

// form answers a number's one form, reduced.
func form(v *big.Rat) api.Frac {
	return f(v.Sign() < 0, list(new(big.Int).Abs(v.Num())), list(v.Denom()))
}

// is tells of a if it isn't, word by word, what is to be answered.
func is(t *testing.T, what string, a api.Spot, want pair) {
	t.Helper()
	if !alike(a, api.Spot{X: form(want.x), Y: form(want.y)}) {
		t.Errorf("%s: %v, not %v %v", what, a, want.x, want.y)
	}
}

// alike tells if two are one spot, word by word.
func alike(a, b api.Spot) bool {
	part := func(a, b api.Frac) bool {
		return a.N.Neg == b.N.Neg && slices.Equal(a.N.Abs, b.N.Abs) && slices.Equal(a.D, b.D)
	}
	return part(a.X, b.X) && part(a.Y, b.Y)
}

// zero tells if a is what stands beside an error.
func zero(a api.Spot) bool {
	return alike(a, api.Spot{})
}

// lists answers where a spot's words are.
func lists(a *api.Spot) []*[]uint32 {
	return []*[]uint32{&a.X.N.Abs, &a.X.D, &a.Y.N.Abs, &a.Y.D}
}

// copied answers spots in words of their own.
func copied(l []api.Spot) []api.Spot {
	out := slices.Clone(l)
	for i := range out {
		for _, words := range lists(&out[i]) {
			*words = slices.Clone(*words)
		}
	}
	return out
}
