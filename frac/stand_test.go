package frac_test

import (
	"math"
	"math/big"
	"testing"

	"frisket/api"
	"frisket/frac"
)

// floor answers the greatest whole number that isn't above x, by the library's own reckoning.
func floor(x *big.Rat) *big.Int {
	return new(big.Int).Div(x.Num(), x.Denom())
}

// stands holds what is told of a against the library's.
func stands(t *testing.T, a api.Frac) {
	t.Helper()
	x := worth(a)
	if got := frac.Sign(a); got != x.Sign() {
		t.Errorf("Sign(%v): %d, not %d", a, got, x.Sign())
	}
	isWhole(t, "Floor", frac.Floor(a), floor(x))
	isWhole(t, "Round", frac.Round(a), floor(new(big.Rat).Add(x, big.NewRat(1, 2))))
	n, ok := frac.Whole(a)
	if want := x.IsInt() && x.Num().IsInt64(); ok != want || ok && int64(n) != x.Num().Int64() || !ok && n != 0 {
		t.Errorf("Whole(%v): %d, %v", a, n, ok)
	}
	if t.Failed() {
		t.Fatalf("of %v", a)
	}
}

// P4.3
func TestStand(t *testing.T) {
	for _, a := range edges() {
		stands(t, a)
	}
	for n := -60; n <= 60; n++ {
		for d := range 13 {
			stands(t, of(n, d))
		}
	}
	d := dice(5)
	for range 3000 {
		a := d.number(8)
		stands(t, a)
		stands(t, frac.Half(frac.Add(a, frac.Reduce(d.number(1)))))
	}
}

// P4.3: what lies in the middle goes up, on both sides of 0.
func TestRound(t *testing.T) {
	for _, c := range []struct{ n, d, floor, round int }{
		{0, 1, 0, 0}, {1, 2, 0, 1}, {-1, 2, -1, 0}, {3, 2, 1, 2}, {-3, 2, -2, -1}, {-5, 2, -3, -2}, {10, 4, 2, 3},
		{49, 100, 0, 0}, {51, 100, 0, 1}, {-49, 100, -1, 0}, {-51, 100, -1, -1}, {5, 1, 5, 5}, {-5, 1, -5, -5}, {-10, 2, -5, -5}, {7, 0, 0, 0},
	} {
		isWhole(t, "Floor", frac.Floor(of(c.n, c.d)), big.NewInt(int64(c.floor)))
		isWhole(t, "Round", frac.Round(of(c.n, c.d)), big.NewInt(int64(c.round)))
	}
}

// P4.3
func TestWhole(t *testing.T) {
	for _, n := range ints() {
		if got, ok := frac.Whole(frac.Int(n)); !ok || got != n {
			t.Errorf("Whole of %d: %d, %v", n, got, ok)
		}
		six := api.Frac{N: api.Whole{Neg: n < 0, Abs: list(new(big.Int).Abs(new(big.Int).Mul(big.NewInt(int64(n)), big.NewInt(6))))}, D: []uint32{6, 0}}
		if got, ok := frac.Whole(six); !ok || got != n {
			t.Errorf("Whole of %d, not reduced: %d, %v", n, got, ok)
		}
	}
	over := frac.Add(frac.Int(math.MaxInt), frac.Int(1))
	for _, a := range []api.Frac{over, frac.Sub(frac.Int(math.MinInt), frac.Int(1)), f(false, []uint32{0, 0, 1}, []uint32{1}), of(1, 2), of(-1, 2), frac.Half(frac.Int(math.MaxInt)), f(true, []uint32{1}, []uint32{0, 1})} {
		if got, ok := frac.Whole(a); ok || got != 0 {
			t.Errorf("Whole(%v): %d, %v", a, got, ok)
		}
	}
	if got, ok := frac.Whole(frac.Neg(over)); !ok || got != math.MinInt {
		t.Errorf("Whole of the least int: %d, %v", got, ok)
	}
}

// P4.3
func TestCmp(t *testing.T) {
	compare := func(a, b api.Frac) {
		t.Helper()
		if got, want := frac.Cmp(a, b), worth(a).Cmp(worth(b)); got != want {
			t.Errorf("Cmp(%v, %v): %d, not %d", a, b, got, want)
		}
	}
	for _, a := range edges() {
		for _, b := range some() {
			compare(a, b)
			compare(b, a)
		}
	}
	d := dice(6)
	for range 3000 {
		a, b := d.number(6), d.number(6)
		compare(a, b)
		compare(d.small(), d.small())
		compare(a, frac.Add(a, f(b.N.Neg, []uint32{1}, b.D)))
		compare(a, frac.Reduce(a))
	}
}
