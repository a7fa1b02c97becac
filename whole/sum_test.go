package whole_test

import (
	"math/big"
	"slices"
	"testing"

	"frisket/api"
	"frisket/whole"
)

// reckons holds what is reckoned of two numbers against the library's.
func reckons(t *testing.T, a, b api.Whole) {
	t.Helper()
	x, y := worth(a), worth(b)
	is(t, "Add", whole.Add(a, b), new(big.Int).Add(x, y))
	is(t, "Sub", whole.Sub(a, b), new(big.Int).Sub(x, y))
	is(t, "Mul", whole.Mul(a, b), new(big.Int).Mul(x, y))
	is(t, "Sum", whole.Sum(a, b), new(big.Int).Add(x, y))
	divides(t, a, b)
	if t.Failed() {
		t.Fatalf("of %v and %v", a, b)
	}
}

// divides holds how often b is in a, and what is left, against the library's: never below 0.
func divides(t *testing.T, a, b api.Whole) {
	t.Helper()
	often, left, ok := whole.Div(a, b)
	x, y := worth(a), worth(b)
	if y.Sign() == 0 {
		if ok || !zero(often) || !zero(left) {
			t.Errorf("Div(%v, %v): %v, %v, %v", a, b, often, left, ok)
		}
		return
	}
	if !ok {
		t.Errorf("Div(%v, %v): false", a, b)
		return
	}
	q, r := new(big.Int).DivMod(x, y, new(big.Int))
	is(t, "Div, how often", often, q)
	is(t, "Div, what is left", left, r)
}

// P2.2
func TestReckonEdges(t *testing.T) {
	for _, a := range edges() {
		is(t, "Neg", whole.Neg(a), new(big.Int).Neg(worth(a)))
		for _, b := range edges() {
			reckons(t, a, b)
		}
	}
}

// P2.2
func TestReckonSmall(t *testing.T) {
	for n := -30; n <= 30; n++ {
		is(t, "Neg", whole.Neg(whole.Of(n)), big.NewInt(int64(-n)))
		for m := -30; m <= 30; m++ {
			reckons(t, whole.Of(n), whole.Of(m))
		}
	}
}

// P2.2: sizes of many words, alike and not.
func TestReckonMany(t *testing.T) {
	d := dice(3)
	for range 3000 {
		a, b := d.number(12), d.number(12)
		reckons(t, a, b)
		reckons(t, a, w(!a.Neg, a.Abs...))
		reckons(t, a, a)
		reckons(t, whole.Mul(a, b), b)
		reckons(t, whole.Sub(whole.Mul(a, b), whole.Of(1)), b)
	}
	for range 5 {
		reckons(t, d.number(600), d.number(300))
	}
}

// P2.2: every pair of signs, with something left and with nothing.
func TestDivSigns(t *testing.T) {
	for _, c := range []struct{ a, b, often, left int }{
		{7, 2, 3, 1}, {-7, 2, -4, 1}, {7, -2, -3, 1}, {-7, -2, 4, 1},
		{6, 2, 3, 0}, {-6, 2, -3, 0}, {6, -2, -3, 0}, {-6, -2, 3, 0},
		{1, 5, 0, 1}, {-1, 5, -1, 4}, {1, -5, 0, 1}, {-1, -5, 1, 4},
		{0, 5, 0, 0}, {0, -5, 0, 0}, {5, 5, 1, 0}, {-5, 5, -1, 0}, {5, -5, -1, 0}, {-5, -5, 1, 0},
		{9, 1, 9, 0}, {-9, 1, -9, 0}, {9, -1, -9, 0}, {-9, -1, 9, 0},
	} {
		often, left, ok := whole.Div(whole.Of(c.a), whole.Of(c.b))
		if !ok || !same(often, whole.Of(c.often)) || !same(left, whole.Of(c.left)) {
			t.Errorf("Div(%d, %d): %v, %v, %v, not %d, %d", c.a, c.b, often, left, ok, c.often, c.left)
		}
	}
	// One time more may take a word more.
	often, left, ok := whole.Div(w(true, top, 0, 1), w(false, 0, 1))
	if !ok || !same(often, w(true, 1, 1)) || !same(left, w(false, 1)) {
		t.Errorf("%v, %v, %v", often, left, ok)
	}
	often, left, ok = whole.Div(w(true, 1, top, top), w(false, 0, 1))
	if !ok || !same(often, w(true, 0, 0, 1)) || !same(left, w(false, top)) {
		t.Errorf("%v, %v, %v", often, left, ok)
	}
}

// P2.2: by 0, in each of its forms.
func TestDivByZero(t *testing.T) {
	for _, b := range []api.Whole{w(false), w(true), {Abs: []uint32{}}, w(false, 0), w(true, 0), w(false, 0, 0, 0), w(true, 0, 0, 0)} {
		for _, a := range append(edges(), w(true, make([]uint32, 400)...)) {
			if often, left, ok := whole.Div(a, b); ok || !zero(often) || !zero(left) {
				t.Errorf("Div(%v, %v): %v, %v, %v", a, b, often, left, ok)
			}
		}
	}
}

// P2.2
func TestSum(t *testing.T) {
	if got := whole.Sum(); !zero(got) {
		t.Errorf("of none: %v", got)
	}
	if got := whole.Sum([]api.Whole{}...); !zero(got) {
		t.Errorf("of an empty list: %v", got)
	}
	for _, a := range edges() {
		is(t, "Sum of one", whole.Sum(a), worth(a))
	}
	total := func(l []api.Whole) *big.Int {
		out := new(big.Int)
		for _, a := range l {
			out.Add(out, worth(a))
		}
		return out
	}
	is(t, "Sum of the edges", whole.Sum(edges()...), total(edges()))
	d := dice(4)
	for n := range 70 {
		l := d.numbers(n, 6)
		is(t, "Sum", whole.Sum(l...), total(l))
		for i := range l {
			l[i].Neg = true
		}
		is(t, "Sum of what is below 0", whole.Sum(l...), total(l))
	}
	is(t, "Sum of what comes to nothing", whole.Sum(w(true, 0, 0, 3), w(false, 0, 0, 1), w(false, 0, 0, 2, 0)), new(big.Int))
	many := slices.Repeat([]api.Whole{w(true, top, 0)}, 100000)
	is(t, "Sum of many", whole.Sum(many...), total(many))
}

// P2.4
func TestRules(t *testing.T) {
	holds := func(what string, a, b api.Whole) {
		t.Helper()
		if !same(a, b) {
			t.Fatalf("%s: %v is not %v", what, a, b)
		}
	}
	d := dice(7)
	for range 2000 {
		a, b, c := d.number(9), d.number(9), d.number(9)
		holds("either order", whole.Add(a, b), whole.Add(b, a))
		holds("either pair first", whole.Add(whole.Add(a, b), c), whole.Add(a, whole.Add(b, c)))
		for _, l := range [][]api.Whole{{a, b, c}, {a, c, b}, {b, a, c}, {b, c, a}, {c, a, b}, {c, b, a}} {
			holds("any order", whole.Sum(l...), whole.Sum(a, b, c))
		}
		holds("into a sum", whole.Mul(a, whole.Add(b, c)), whole.Add(whole.Mul(a, b), whole.Mul(a, c)))
		holds("out of a difference", whole.Mul(whole.Sub(a, b), c), whole.Sub(whole.Mul(a, c), whole.Mul(b, c)))
		holds("back again", whole.Sub(whole.Add(a, b), b), whole.Make(a.Neg, a.Abs))
		holds("twice around", whole.Neg(whole.Neg(a)), whole.Make(a.Neg, a.Abs))
		holds("nothing", whole.Sum(a, whole.Neg(a)), api.Whole{})
		if got, want := whole.Cmp(whole.Add(a, c), whole.Add(b, c)), whole.Cmp(a, b); got != want {
			t.Fatalf("order of %v and %v, with %v: %d, not %d", a, b, c, got, want)
		}
		if got, want := whole.Sign(whole.Sub(a, b)), whole.Cmp(a, b); got != want {
			t.Fatalf("sign of %v without %v: %d, not %d", a, b, got, want)
		}
		if often, left, ok := whole.Div(a, b); ok {
			holds("divided", whole.Add(whole.Mul(often, b), left), whole.Make(a.Neg, a.Abs))
			if whole.Sign(left) < 0 || whole.Cmp(left, whole.Make(false, b.Abs)) >= 0 {
				t.Fatalf("%v by %v: %v is left", a, b, left)
			}
		}
	}
}

// The chapter's example.
func TestExample(t *testing.T) {
	for _, c := range []struct{ b, often int }{{2, -4}, {-2, 4}} {
		often, left, ok := whole.Div(whole.Of(-7), whole.Of(c.b))
		if !ok || !same(often, whole.Of(c.often)) || !same(left, whole.Of(1)) {
			t.Errorf("Div of -7 and %d: %v, %v, %v", c.b, often, left, ok)
		}
	}
}
