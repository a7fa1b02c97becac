package root_test

import (
	"math"
	"math/big"
	"testing"

	"frisket/api"
	"frisket/root"
)

// roots holds a number's root by what it must be, and if the number is a square.
func roots(t *testing.T, a []uint32) {
	t.Helper()
	got := root.Sqrt(a)
	v, r := worth(a), worth(got)
	square := new(big.Int).Mul(r, r)
	next := new(big.Int).Add(r, big.NewInt(1))
	if square.Cmp(v) > 0 || next.Mul(next, next).Cmp(v) <= 0 {
		t.Fatalf("Sqrt(%v): %v", a, got)
	}
	if n := len(got); n > 0 && got[n-1] == 0 {
		t.Fatalf("Sqrt(%v): a word of 0 at the end of %v", a, got)
	}
	if is, want := root.Square(a), square.Cmp(v) == 0; is != want {
		t.Fatalf("Square(%v): %v", a, is)
	}
}

// around holds the roots of the square of r, and of those next to it and of the last one ahead of the next square.
func around(t *testing.T, r *big.Int) {
	t.Helper()
	square := new(big.Int).Mul(r, r)
	last := new(big.Int).Add(square, new(big.Int).Lsh(r, 1))
	below := new(big.Int).Sub(r, big.NewInt(1))
	for _, c := range []struct {
		v, want *big.Int
		square  bool
	}{
		{square, r, true}, {last, r, r.Sign() == 0}, {new(big.Int).Add(last, big.NewInt(1)), new(big.Int).Add(r, big.NewInt(1)), true},
		{new(big.Int).Add(square, big.NewInt(1)), r, false}, {new(big.Int).Sub(square, big.NewInt(1)), below, false},
	} {
		if r.Cmp(big.NewInt(1)) <= 0 && c.v.Cmp(last) != 0 {
			continue // 0 and 1 are squares next to each other
		}
		a := words(c.v)
		is(t, "Sqrt", root.Sqrt(a), c.want)
		is(t, "Sqrt, with words of 0 behind", root.Sqrt(append(a, 0, 0, 0)), c.want)
		if got := root.Square(append(a, 0)); got != c.square {
			t.Errorf("Square(%v): %v", c.v, got)
		}
	}
	if t.Failed() {
		t.Fatalf("around the square of %v", r)
	}
}

// P3.2
func TestSqrtSmall(t *testing.T) {
	for r := range 120 {
		for v := r * r; v < (r+1)*(r+1); v++ {
			a := words(big.NewInt(int64(v)))
			is(t, "Sqrt", root.Sqrt(a), big.NewInt(int64(r)))
			if got := root.Square(a); got != (v == r*r) {
				t.Errorf("Square of %d: %v", v, got)
			}
			if got := root.SqrtInt(v); got != r {
				t.Errorf("SqrtInt(%d): %d", v, got)
			}
		}
	}
}

// P3.2: 0 in each of its forms.
func TestSqrtOfNothing(t *testing.T) {
	for _, zero := range [][]uint32{nil, {}, {0}, {0, 0, 0}, make([]uint32, 400)} {
		if got := root.Sqrt(zero); len(got) != 0 {
			t.Errorf("Sqrt of %d words of 0: %v", len(zero), got)
		}
		if !root.Square(zero) {
			t.Errorf("Square of %d words of 0: false", len(zero))
		}
	}
}

// P3.2: numbers on which a call may stumble, their squares, and what is next to these.
func TestSqrtOfEdges(t *testing.T) {
	for _, a := range edges() {
		roots(t, a)
		around(t, worth(a))
	}
}

// P3.2: at, below and above each power of 2, and the squares of such, on to more bits than MaxShift twice over.
func TestSqrtOfPowers(t *testing.T) {
	far := []int{api.MaxShift - 1, api.MaxShift, api.MaxShift + 1, 2*api.MaxShift - 1, 2 * api.MaxShift, 2*api.MaxShift + 1, 2*api.MaxShift + 2, 3*api.MaxShift + 7}
	for n := range 400 {
		far = append(far, n)
	}
	for _, n := range far {
		for off := int64(-1); off <= 1; off++ {
			v := new(big.Int).Add(power(2, n), big.NewInt(off))
			roots(t, words(v))
			around(t, v)
		}
	}
}

// P3.2
func TestSqrtOfMany(t *testing.T) {
	d := dice(5)
	for range 2000 {
		a := d.number(16)
		roots(t, a)
		roots(t, append(a, 1)) // of few bits in the highest word
		around(t, worth(a))
	}
	for range 5 {
		roots(t, d.number(900))
		around(t, worth(d.number(500)))
	}
}

// P3.2: squares whose roots are known by their factors.
func TestSquareKnown(t *testing.T) {
	for n := range 120 {
		square := new(big.Int).Mul(power(6, 2*n), power(4294967291, n-n%2))
		if !root.Square(words(square)) {
			t.Errorf("Square(%v): false", square)
		}
		for _, p := range []int{2, 3, 5, 4294967291} {
			if root.Square(words(new(big.Int).Mul(square, big.NewInt(int64(p))))) {
				t.Errorf("Square of %v times %d: true", square, p)
			}
		}
	}
}

// P3.2: the least and the greatest int, ints below 0, and those next to squares.
func TestSqrtInt(t *testing.T) {
	for _, n := range []int{0, -1, -2, -4, -25, -1 << 31, -1 << 32, -1 << 62, math.MinInt, math.MinInt + 1} {
		if got := root.SqrtInt(n); got != 0 {
			t.Errorf("SqrtInt(%d): %d", n, got)
		}
	}
	const most = 3037000499 // the root of the greatest int
	for _, n := range []int{math.MaxInt, math.MaxInt - 1, most * most, most*most + 1} {
		if got := root.SqrtInt(n); got != most {
			t.Errorf("SqrtInt(%d): %d", n, got)
		}
	}
	d := dice(6)
	rs := []int{1, 2, 3, 255, 256, 65535, 65536, 65537, 1<<31 - 1, 1 << 31, 1<<31 + 1, most - 1, most}
	for range 2000 {
		rs = append(rs, 1+int(d.roll())%most>>(d.roll()%32))
	}
	for _, r := range rs {
		for _, c := range [][2]int{{r*r - 1, r - 1}, {r * r, r}, {r*r + 1, max(r, 1)}, {(r - 1) * (r + 1), r - 1}, {r*r - r, r - 1}} {
			if got := root.SqrtInt(c[0]); got != c[1] {
				t.Errorf("SqrtInt(%d): %d, not %d", c[0], got, c[1])
			}
		}
	}
}
