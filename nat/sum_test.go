package nat_test

import (
	"math/big"
	"testing"

	"frisket/nat"
)

// sums holds the sum, the difference and the product of two numbers against the library's.
func sums(t *testing.T, a, b []uint32) {
	t.Helper()
	x, y := worth(a), worth(b)
	is(t, "Add", nat.Add(a, b), new(big.Int).Add(x, y))
	is(t, "Mul", nat.Mul(a, b), new(big.Int).Mul(x, y))
	left, ok := nat.Sub(a, b)
	if want := x.Cmp(y) >= 0; ok != want {
		t.Errorf("Sub(%v, %v): %v", a, b, ok)
	} else if ok {
		is(t, "Sub", left, new(big.Int).Sub(x, y))
	} else if len(left) != 0 {
		t.Errorf("Sub(%v, %v): %v beside a false", a, b, left)
	}
}

// P1.2
func TestSumsOfEdges(t *testing.T) {
	for _, a := range edges() {
		for _, b := range edges() {
			sums(t, a, b)
		}
	}
}

// P1.2
func TestSumsOfMany(t *testing.T) {
	d := dice(1)
	for range 3000 {
		sums(t, d.number(12), d.number(12))
	}
	for range 5 {
		sums(t, d.number(900), d.number(900))
	}
}

// P1.2: a difference below 0.
func TestSubBelow(t *testing.T) {
	for _, c := range [][2][]uint32{
		{nil, {1}}, {{4}, {5}}, {{0, 0}, {1, 0}}, {{top}, {0, 1}}, {{top, top}, {0, 0, 1}}, {{9, 9, 1}, {8, 8, 2}}, {{0, 5}, {1, 5}},
	} {
		if left, ok := nat.Sub(c[0], c[1]); ok || len(left) != 0 {
			t.Errorf("Sub(%v, %v): %v, %v", c[0], c[1], left, ok)
		}
	}
	if left, ok := nat.Sub([]uint32{7, 7, 0}, []uint32{7, 7}); !ok || len(left) != 0 {
		t.Errorf("a number without itself: %v, %v", left, ok)
	}
}
