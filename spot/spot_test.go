package spot_test

import (
	"math/big"
	"slices"
	"testing"

	"frisket/api"
	"frisket/spot"
)

// P5.1
func TestAt(t *testing.T) {
	for _, x := range ints() {
		for _, y := range ints() {
			is(t, "At", spot.At(api.Point{X: x, Y: y}), ofPoint(api.Point{X: x, Y: y}))
		}
	}
}

// compares holds Cmp and Same against the library's.
func compares(t *testing.T, a, b api.Spot) {
	t.Helper()
	want := worths(a).cmp(worths(b))
	if got := spot.Cmp(a, b); got != want {
		t.Errorf("Cmp(%v, %v): %d, not %d", a, b, got, want)
	}
	if got := spot.Same(a, b); got != (want == 0) {
		t.Errorf("Same(%v, %v): %v", a, b, got)
	}
}

// P5.1
func TestCmpAndSame(t *testing.T) {
	for _, a := range spots() {
		for _, b := range spots() {
			compares(t, a, b)
		}
	}
	d := dice(1)
	for range 3000 {
		a, b := d.spot(5), d.spot(5)
		compares(t, a, b)
		compares(t, a, api.Spot{X: a.X, Y: b.Y})
		compares(t, a, api.Spot{X: b.X, Y: a.Y})
		compares(t, a, spot.Mid(a, a))
	}
}

// P5.1: X tells ahead of Y, Y where X doesn't, and two forms of one point are one.
func TestCmpByXThenY(t *testing.T) {
	for _, c := range []struct {
		a, b api.Spot
		want int
	}{
		{at(1, 9), at(2, -9), -1}, {at(2, -9), at(1, 9), 1}, {at(1, 1), at(1, 2), -1}, {at(1, 2), at(1, 1), 1}, {at(-1, 0), at(1, 0), -1},
		{at(3, 4), api.Spot{X: of(6, 2), Y: of(12, 3)}, 0}, {api.Spot{}, at(0, 0), 0}, {api.Spot{X: of(5, 0), Y: of(-5, 0)}, at(0, 0), 0},
		{api.Spot{X: of(1, 3), Y: of(1, 1)}, api.Spot{X: of(1, 2), Y: of(0, 1)}, -1},
	} {
		if got := spot.Cmp(c.a, c.b); got != c.want {
			t.Errorf("Cmp(%v, %v): %d, not %d", c.a, c.b, got, c.want)
		}
		if got := spot.Same(c.a, c.b); got != (c.want == 0) {
			t.Errorf("Same(%v, %v): %v", c.a, c.b, got)
		}
	}
}

// P5.1
func TestMid(t *testing.T) {
	half := big.NewRat(1, 2)
	for _, a := range spots() {
		for _, b := range spots() {
			is(t, "Mid", spot.Mid(a, b), worths(a).toward(worths(b), half))
		}
	}
	d := dice(2)
	for range 2000 {
		a, b := d.spot(6), d.spot(6)
		is(t, "Mid", spot.Mid(a, b), worths(a).toward(worths(b), half))
	}
	is(t, "Mid of 0 0 and 3 -4", spot.Mid(at(0, 0), at(3, -4)), pair{big.NewRat(3, 2), big.NewRat(-2, 1)})
}

// P5.1: t may be any number.
func TestToward(t *testing.T) {
	for _, a := range some() {
		for _, b := range some() {
			for _, by := range parts() {
				is(t, "Toward", spot.Toward(a, b, by), worths(a).toward(worths(b), worth(by)))
			}
		}
	}
	d := dice(3)
	for range 2000 {
		a, b, by := d.spot(4), d.spot(4), d.part(4)
		is(t, "Toward", spot.Toward(a, b, by), worths(a).toward(worths(b), worth(by)))
	}
	for _, c := range []struct {
		by   api.Frac
		x, y *big.Rat
	}{
		{of(0, 1), big.NewRat(1, 1), big.NewRat(2, 1)}, {of(1, 1), big.NewRat(4, 1), big.NewRat(-4, 1)}, {of(5, 0), big.NewRat(1, 1), big.NewRat(2, 1)},
		{of(1, 3), big.NewRat(2, 1), big.NewRat(0, 1)}, {of(-2, 6), big.NewRat(0, 1), big.NewRat(4, 1)}, {of(3, 2), big.NewRat(11, 2), big.NewRat(-7, 1)},
	} {
		is(t, "Toward from 1 2 to 4 -4", spot.Toward(at(1, 2), at(4, -4), c.by), pair{c.x, c.y})
	}
}

// R3, R6: nothing that is handed in is changed, and no answer shares its words, or words within itself or with another one.
func TestOwnWords(t *testing.T) {
	calls := []func(a, b api.Spot) []api.Spot{
		func(a, b api.Spot) []api.Spot {
			return []api.Spot{spot.At(api.Point{X: 3, Y: 3}), spot.At(api.Point{X: 3, Y: 3}), spot.At(api.Point{})}
		},
		func(a, b api.Spot) []api.Spot {
			return []api.Spot{spot.Mid(a, b), spot.Mid(a, a), spot.Mid(a, api.Spot{})}
		},
		func(a, b api.Spot) []api.Spot {
			return []api.Spot{spot.Toward(a, b, b.X), spot.Toward(a, b, of(0, 1)), spot.Toward(a, b, of(1, 1)), spot.Toward(a, a, a.Y)}
		},
		func(a, b api.Spot) []api.Spot { return spot.Row([]api.Spot{b, a, b, a}) },
		func(a, b api.Spot) []api.Spot { return append(spot.Row([]api.Spot{a}), spot.Row([]api.Spot{a})...) },
		func(a, b api.Spot) []api.Spot {
			spot.Same(a, b)
			spot.Cmp(a, b)
			spot.Turn(a, b, b)
			spot.Turn(b, a, at(1, 2))
			spot.Side(api.Point{X: 1}, api.Point{Y: 1}, a)
			spot.On(a, b, a)
			spot.Text(a)
			return nil
		},
	}
	for i, call := range calls {
		for _, a := range spots() {
			for _, b := range some() {
				in := []api.Spot{a, b}
				was := copied(in)
				out := call(a, b)
				if !slices.EqualFunc(in, was, alike) {
					t.Fatalf("call %d changed %v or %v", i, was[0], was[1])
				}
				for j := range out {
					for k, words := range lists(&out[j]) {
						want := copied(out)
						for n := range (*words)[:cap(*words)] {
							(*words)[:cap(*words)][n] = 12345
						}
						*lists(&want[j])[k] = *words
						if !slices.EqualFunc(out, want, alike) {
							t.Fatalf("call %d: two lists of answers share words", i)
						}
					}
				}
				if !slices.EqualFunc(in, was, alike) {
					t.Fatalf("call %d: an answer shares words with %v or %v", i, was[0], was[1])
				}
			}
		}
	}
}
