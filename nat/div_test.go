package nat_test

import (
	"math/big"
	"testing"

	"frisket/nat"
)

// divides holds how often b is in a, and what is left, against the library's.
func divides(t *testing.T, a, b []uint32) {
	t.Helper()
	often, left, ok := nat.Div(a, b)
	y := worth(b)
	if y.Sign() == 0 {
		if ok || len(often) != 0 || len(left) != 0 {
			t.Errorf("Div(%v, %v): %v, %v, %v", a, b, often, left, ok)
		}
		return
	}
	if !ok {
		t.Errorf("Div(%v, %v): false", a, b)
		return
	}
	q, r := new(big.Int).QuoRem(worth(a), y, new(big.Int))
	is(t, "Div, how often", often, q)
	is(t, "Div, what is left", left, r)
	if t.Failed() {
		t.Fatalf("Div(%v, %v)", a, b)
	}
}

// P1.2
func TestDivOfEdges(t *testing.T) {
	for _, a := range edges() {
		for _, b := range edges() {
			divides(t, a, b)
		}
	}
}

// P1.2: a guess at a word may be too great, by the words at the ends of their range.
func TestDivWhereGuessesFail(t *testing.T) {
	words := []uint32{0, 1, 1<<31 - 1, 1 << 31, top - 1, top}
	dividends := append(rows(3, words...), rows(4, words...)...)
	for _, b := range append(rows(2, words...), rows(3, words...)...) {
		for _, a := range dividends {
			divides(t, a, b)
		}
	}
	for _, c := range [][2][]uint32{
		{{0, 0, 0x8000, 0x7fff}, {1, 0, 0x8000}}, {{0, 0xfffe, 0, 0x8000}, {0xffff, 0, 0x8000}},
		{{0, top - 1, 1 << 31}, {top, 1 << 31}}, {{3, 0, 1 << 31}, {1, 0, 1 << 29}},
	} {
		divides(t, c[0], c[1])
	}
}

// P1.2
func TestDivOfMany(t *testing.T) {
	d := dice(2)
	for range 3000 {
		divides(t, d.number(16), d.number(1))
		divides(t, d.number(16), d.number(8))
		divides(t, d.number(8), d.number(16))
	}
	for range 5 {
		divides(t, d.number(900), d.number(300))
	}
}

// P1.2: a divisor of 0.
func TestDivByNothing(t *testing.T) {
	for _, a := range edges() {
		for _, b := range [][]uint32{nil, {}, {0}, {0, 0, 0}} {
			if often, left, ok := nat.Div(a, b); ok || len(often) != 0 || len(left) != 0 {
				t.Errorf("Div(%v, %v): %v, %v, %v", a, b, often, left, ok)
			}
		}
	}
}
