package root_test

import (
	"math/big"
	"testing"

	"frisket/api"
	"frisket/root"
)

// shares holds all that is told of two numbers' factors against the greatest one that is to be in both.
func shares(t *testing.T, a, b []uint32, factor *big.Int) {
	t.Helper()
	x, y := worth(a), worth(b)
	common, first, second := new(big.Int), new(big.Int), new(big.Int)
	if factor.Sign() != 0 {
		first.Div(x, factor)
		second.Div(y, factor)
		common.Mul(first, y)
	}
	is(t, "Gcd", root.Gcd(a, b), factor)
	is(t, "Lcm", root.Lcm(a, b), common)
	gotFirst, gotSecond := root.Reduce(a, b)
	is(t, "Reduce, the first one", gotFirst, first)
	is(t, "Reduce, the second one", gotSecond, second)
	if t.Failed() {
		t.Fatalf("of %v and %v", a, b)
	}
}

// eitherWay holds two numbers in both orders.
func eitherWay(t *testing.T, a, b []uint32, factor *big.Int) {
	t.Helper()
	shares(t, a, b, factor)
	shares(t, b, a, factor)
}

// asTheLibrary holds two numbers against the library's greatest factor.
func asTheLibrary(t *testing.T, a, b []uint32) {
	t.Helper()
	eitherWay(t, a, b, new(big.Int).GCD(nil, nil, worth(a), worth(b)))
}

// P3.1
func TestFactorsSmall(t *testing.T) {
	for a := range 61 {
		for b := range 61 {
			want := max(a, b) // of 0 and b all factors of b are in both
			for f := 1; f <= min(a, b); f++ {
				if a%f == 0 && b%f == 0 {
					want = f
				}
			}
			shares(t, words(big.NewInt(int64(a))), words(big.NewInt(int64(b))), big.NewInt(int64(want)))
		}
	}
	for _, c := range []struct{ a, b, factor uint32 }{
		{12, 18, 6}, {1, 1, 1}, {17, 17, 17}, {17, 51, 17}, {35, 64, 1}, {top, top, top}, {top, 65537, 65537}, {top, top - 1, 1}, {1 << 31, 1 << 15, 1 << 15},
	} {
		eitherWay(t, []uint32{c.a}, []uint32{c.b, 0, 0}, big.NewInt(int64(c.factor)))
	}
}

// P3.1: 0 on either side and on both, in each of its forms.
func TestFactorsOfNothing(t *testing.T) {
	for _, zero := range [][]uint32{nil, {}, {0}, {0, 0, 0}, make([]uint32, 400)} {
		for _, a := range edges() {
			eitherWay(t, a, zero, worth(a))
			one, none := root.Reduce(a, zero)
			if worth(a).Sign() > 0 && (len(one) != 1 || one[0] != 1 || len(none) != 0) {
				t.Errorf("Reduce(%v, 0): %v, %v", a, one, none)
			}
		}
	}
}

// P3.1
func TestFactorsOfEdges(t *testing.T) {
	for _, a := range edges() {
		for _, b := range edges() {
			asTheLibrary(t, a, b)
		}
	}
}

// P3.1: with a common factor and without, one a multiple of the other, next to each other, and equal.
func TestFactorsOfMany(t *testing.T) {
	d := dice(1)
	for range 1500 {
		a, b, factor := d.number(12), d.number(12), d.number(8)
		asTheLibrary(t, a, b)
		shares(t, a, append(a, 0, 0), worth(a))
		x, y, f := worth(a), worth(b), worth(factor)
		asTheLibrary(t, words(new(big.Int).Mul(x, f)), words(new(big.Int).Mul(y, f)))
		eitherWay(t, a, words(new(big.Int).Mul(x, new(big.Int).Add(f, big.NewInt(1)))), x)
		eitherWay(t, a, words(new(big.Int).Add(x, big.NewInt(1))), big.NewInt(1))
	}
	for range 3 {
		asTheLibrary(t, d.number(900), d.number(900))
		asTheLibrary(t, d.number(900), d.number(3))
	}
}

// P3.1: numbers of many words, made of factors that are known.
func TestFactorsKnown(t *testing.T) {
	primes := []int{2, 3, 5, 7, 11, 13, 65537, 2147483647, 4294967291}
	d := dice(2)
	for range 300 {
		a, b, factor := big.NewInt(1), big.NewInt(1), big.NewInt(1)
		for _, p := range primes {
			n, m := int(d.roll()%20), int(d.roll()%20)
			a.Mul(a, power(p, n))
			b.Mul(b, power(p, m))
			factor.Mul(factor, power(p, min(n, m)))
		}
		eitherWay(t, words(a), words(b), factor)
	}
	// Of 2^n - 1 and 2^m - 1 it is 2^k - 1, where k is that of n and m.
	less := func(n int) *big.Int { return new(big.Int).Sub(power(2, n), big.NewInt(1)) }
	for _, c := range [][3]int{{521, 1042, 521}, {521, 607, 1}, {96, 64, 32}, {192, 128, 64}, {1024, 768, 256}, {2 * api.MaxShift, 3 * api.MaxShift, api.MaxShift}, {9999, 6666, 3333}, {30000, 20001, 3}} {
		eitherWay(t, words(less(c[0])), words(less(c[1])), less(c[2]))
	}
}

// P3.1: numbers whose divisions go as given, each by what the one ahead left: of quotients as small as may be, as great as one word or two, and beyond.
func TestFactorsByTheirQuotients(t *testing.T) {
	quotients := []*big.Int{big.NewInt(1), big.NewInt(1), big.NewInt(1), big.NewInt(2), big.NewInt(3)}
	for _, n := range []int{16, 31, 32, 33, 48, 63, 64, 65, 130} {
		for off := -1; off <= 1; off++ {
			quotients = append(quotients, new(big.Int).Add(power(2, n), big.NewInt(int64(off))))
		}
	}
	d := dice(3)
	for n := range 600 {
		factor := power(3, int(d.roll()%60))
		a, b := new(big.Int).Set(factor), new(big.Int)
		kinds := uint32(len(quotients))
		if n%2 == 0 {
			kinds = 5 // the small ones alone: many divisions are foreseen at once
		}
		for range 2 + n/3 {
			a, b = new(big.Int).Add(b, new(big.Int).Mul(a, quotients[d.roll()%kinds])), a
		}
		eitherWay(t, words(a), words(b), factor)
	}
}

// P3.1: neighbours in Fibonacci's row, each the sum of the two ahead, have no common factor, and take the most divisions.
func TestFactorsOfFibonacci(t *testing.T) {
	a, b := big.NewInt(1), big.NewInt(1)
	for n := range 3000 {
		a, b = b, new(big.Int).Add(a, b)
		if n < 200 || n%50 == 0 {
			eitherWay(t, words(a), words(b), big.NewInt(1))
		}
	}
}

// P3.1: numbers whose highest words are alike, or which differ in length by words.
func TestFactorsOfLikeHeads(t *testing.T) {
	d := dice(4)
	for range 400 {
		a := append(d.number(8), d.roll(), d.roll(), d.roll()|1)
		b := append(d.number(8), a[len(a)-3:]...)
		asTheLibrary(t, a, b)
		c := append([]uint32(nil), a...)
		c[d.roll()%3]++
		asTheLibrary(t, a, c)
		for n := range min(5, len(a)) {
			asTheLibrary(t, a, a[n:])
			asTheLibrary(t, a, append(make([]uint32, n), a...))
		}
	}
}
