package frac_test

import (
	"math/big"
	"slices"
	"testing"

	"frisket/api"
	"frisket/frac"
)

// reckons holds what is reckoned of two fractions against the library's.
func reckons(t *testing.T, a, b api.Frac) {
	t.Helper()
	x, y := worth(a), worth(b)
	is(t, "Add", frac.Add(a, b), new(big.Rat).Add(x, y))
	is(t, "Sub", frac.Sub(a, b), new(big.Rat).Sub(x, y))
	is(t, "Mul", frac.Mul(a, b), new(big.Rat).Mul(x, y))
	is(t, "Sum", frac.Sum(a, b), new(big.Rat).Add(x, y))
	q, e := frac.Div(a, b)
	if y.Sign() == 0 {
		if e != api.ErrZero || !zero(q) {
			t.Errorf("Div: %v, %v", q, e)
		}
	} else {
		if e != api.OK {
			t.Errorf("Div: %v", e)
		}
		is(t, "Div", q, new(big.Rat).Quo(x, y))
	}
	if t.Failed() {
		t.Fatalf("of %v and %v", a, b)
	}
}

// alone holds what is reckoned of one fraction against the library's.
func alone(t *testing.T, a api.Frac) {
	t.Helper()
	is(t, "Neg", frac.Neg(a), new(big.Rat).Neg(worth(a)))
	is(t, "Half", frac.Half(a), new(big.Rat).Quo(worth(a), big.NewRat(2, 1)))
	is(t, "Sum of one", frac.Sum(a), worth(a))
}

// P4.2
func TestReckonEdges(t *testing.T) {
	for _, a := range edges() {
		alone(t, a)
	}
	for _, a := range some() {
		for _, b := range some() {
			reckons(t, a, b)
		}
	}
}

// P4.2: all small ones, and so all pairs of signs, equal and related Ds, sums that come to nothing.
func TestReckonSmall(t *testing.T) {
	for n := -7; n <= 7; n++ {
		for d := range 9 {
			alone(t, of(n, d))
			for m := -7; m <= 7; m++ {
				for c := range 9 {
					reckons(t, of(n, d), of(m, c))
				}
			}
		}
	}
}

// P4.2: parts of many words, alike and not.
func TestReckonMany(t *testing.T) {
	d := dice(2)
	for range 1500 {
		a, b := d.number(9), d.number(9)
		alone(t, a)
		reckons(t, a, b)
		reckons(t, a, a)
		reckons(t, a, f(!a.N.Neg, a.N.Abs, a.D))
		reckons(t, a, f(b.N.Neg, b.N.Abs, a.D))
		reckons(t, a, f(a.N.Neg, a.D, a.N.Abs))
		reckons(t, a, f(b.N.Neg, b.D, a.N.Abs))
	}
	for range 4 {
		reckons(t, d.number(300), d.number(200))
	}
}

// P4.2: by 0, in each of its forms.
func TestDivByZero(t *testing.T) {
	for _, b := range []api.Frac{
		{}, frac.Int(0), f(true, nil, nil), f(true, []uint32{0, 0}, []uint32{3}), f(false, []uint32{3}, nil), f(true, []uint32{3}, []uint32{0, 0}),
	} {
		for _, a := range edges() {
			if q, e := frac.Div(a, b); e != api.ErrZero || !zero(q) {
				t.Errorf("Div(%v, %v): %v, %v", a, b, q, e)
			}
		}
	}
}

// total answers the sum of all, by the library's own reckoning.
func total(l []api.Frac) *big.Rat {
	out := new(big.Rat)
	for _, a := range l {
		out.Add(out, worth(a))
	}
	return out
}

// P4.2
func TestSum(t *testing.T) {
	is(t, "of none", frac.Sum(), new(big.Rat))
	is(t, "of an empty list", frac.Sum([]api.Frac{}...), new(big.Rat))
	d := dice(3)
	for n := range 40 {
		var l []api.Frac
		for range n {
			l = append(l, d.small(), d.number(4))
		}
		is(t, "Sum", frac.Sum(l...), total(l))
	}
	is(t, "Sum of some", frac.Sum(some()...), total(some()))
	many := slices.Repeat([]api.Frac{of(-5, 6), of(1, 4), api.Frac{}}, 20000)
	is(t, "Sum of many", frac.Sum(many...), big.NewRat(-20000*7, 12))
	var steps []api.Frac // 1/2, 1/6, 1/12 ..: all but the ends comes to nothing
	for n := 1; n < 3000; n++ {
		steps = append(steps, of(1, n), of(-1, n+1))
	}
	is(t, "Sum of steps", frac.Sum(steps...), big.NewRat(2999, 3000))
}

// P4.5
func TestRules(t *testing.T) {
	d := dice(4)
	holds := func(what string, a, b api.Frac) {
		t.Helper()
		if !same(a, b) {
			t.Fatalf("%s: %v is not %v", what, a, b)
		}
	}
	for i := range 1500 {
		a, b, c := d.number(5), d.number(5), d.number(5)
		if i%2 == 0 {
			a, b, c = d.small(), d.small(), d.small()
		}
		holds("either order of a sum", frac.Add(a, b), frac.Add(b, a))
		holds("either order of a product", frac.Mul(a, b), frac.Mul(b, a))
		holds("either pair of a sum first", frac.Add(frac.Add(a, b), c), frac.Add(a, frac.Add(b, c)))
		holds("either pair of a product first", frac.Mul(frac.Mul(a, b), c), frac.Mul(a, frac.Mul(b, c)))
		for _, l := range [][]api.Frac{{a, b, c}, {a, c, b}, {b, a, c}, {b, c, a}, {c, a, b}, {c, b, a}} {
			holds("any order", frac.Sum(l...), frac.Add(frac.Add(a, b), c))
		}
		holds("into a sum", frac.Mul(a, frac.Add(b, c)), frac.Add(frac.Mul(a, b), frac.Mul(a, c)))
		holds("back again", frac.Sub(frac.Add(a, b), b), frac.Reduce(a))
		holds("twice around", frac.Neg(frac.Neg(a)), frac.Reduce(a))
		holds("nothing", frac.Sub(a, a), frac.Int(0))
		holds("two halves", frac.Add(frac.Half(a), frac.Half(a)), frac.Reduce(a))
		holds("half of a sum", frac.Half(frac.Add(a, b)), frac.Add(frac.Half(a), frac.Half(b)))
		if q, e := frac.Div(a, b); e == api.OK {
			holds("divided", frac.Mul(q, b), frac.Reduce(a))
		}
		if got, want := frac.Sign(frac.Sub(a, b)), frac.Cmp(a, b); got != want {
			t.Fatalf("sign of %v without %v: %d, not %d", a, b, got, want)
		}
		if got, want := frac.Cmp(frac.Add(a, c), frac.Add(b, c)), frac.Cmp(a, b); got != want {
			t.Fatalf("order of %v and %v, with %v: %d, not %d", a, b, c, got, want)
		}
	}
}
