package whole_test

import (
	"math"
	"math/big"
	"slices"
	"testing"

	"frisket/api"
	"frisket/whole"
)

// P2.1
func TestMake(t *testing.T) {
	for _, c := range []struct {
		neg  bool
		abs  []uint32
		want api.Whole
	}{
		{false, nil, w(false)}, {true, nil, w(false)}, {true, []uint32{}, w(false)}, {true, []uint32{0}, w(false)}, {true, []uint32{0, 0, 0}, w(false)}, {false, []uint32{0, 0}, w(false)},
		{false, []uint32{5}, w(false, 5)}, {true, []uint32{5}, w(true, 5)}, {true, []uint32{5, 0, 0}, w(true, 5)}, {false, []uint32{5, 0}, w(false, 5)},
		{true, []uint32{0, 5, 0, 7, 0}, w(true, 0, 5, 0, 7)}, {false, []uint32{0, 0, 0, 1}, w(false, 0, 0, 0, 1)}, {true, []uint32{top, top, top}, w(true, top, top, top)},
	} {
		if got := whole.Make(c.neg, c.abs); !same(got, c.want) {
			t.Errorf("Make(%v, %v): %v, not %v", c.neg, c.abs, got, c.want)
		}
	}
	for _, a := range edges() {
		is(t, "Make", whole.Make(a.Neg, a.Abs), worth(a))
	}
}

// ints are some around the edges of what one word, two words and an int hold.
func ints() []int {
	out := []int{math.MinInt, math.MinInt + 1, math.MinInt + 2, math.MaxInt, math.MaxInt - 1, math.MinInt32, math.MaxInt32}
	for shift := range 63 {
		for d := -1; d <= 1; d++ {
			out = append(out, 1<<shift+d, -(1<<shift + d))
		}
	}
	return out
}

// P2.1
func TestOfAndInt(t *testing.T) {
	for _, n := range ints() {
		a := whole.Of(n)
		is(t, "Of", a, big.NewInt(int64(n)))
		if got, ok := whole.Int(a); got != n || !ok {
			t.Errorf("Int of %d: %d, %v", n, got, ok)
		}
		long := w(a.Neg, append(slices.Clone(a.Abs), 0, 0, 0)...)
		if got, ok := whole.Int(long); got != n || !ok {
			t.Errorf("Int(%v): %d, %v", long, got, ok)
		}
	}
	for _, a := range edges() {
		want := worth(a)
		got, ok := whole.Int(a)
		if ok != want.IsInt64() || ok && int64(got) != want.Int64() || !ok && got != 0 {
			t.Errorf("Int(%v): %d, %v", a, got, ok)
		}
	}
}

// P2.1: what is no int, just beyond them, and where its lowest words alone would be one.
func TestIntBeyond(t *testing.T) {
	for _, a := range []api.Whole{
		w(false, 0, 1<<31), w(true, 1, 1<<31), w(true, 1, 1<<31, 0, 0), w(false, 0, 1<<31, 0), w(false, top, top), w(true, top, top), w(true, 0, 1<<31+1),
		w(false, 0, 0, 1), w(true, 0, 0, 1), w(false, 5, 0, 1), w(true, 5, 0, 1, 0), w(false, 5, 0, 0, 0, 0, 1), w(true, 0, 1<<31, 1),
	} {
		if got, ok := whole.Int(a); got != 0 || ok {
			t.Errorf("Int(%v): %d, %v", a, got, ok)
		}
	}
	for _, c := range []struct {
		a    api.Whole
		want int
	}{{w(false, top, 1<<31-1), math.MaxInt}, {w(true, 0, 1<<31), math.MinInt}, {w(true, top, 1<<31-1), -math.MaxInt}, {w(true), 0}, {w(true, 0, 0), 0}} {
		if got, ok := whole.Int(c.a); got != c.want || !ok {
			t.Errorf("Int(%v): %d, %v, not %d", c.a, got, ok, c.want)
		}
	}
}

// P2.1
func TestSign(t *testing.T) {
	for _, a := range edges() {
		if got, want := whole.Sign(a), worth(a).Sign(); got != want {
			t.Errorf("Sign(%v): %d, not %d", a, got, want)
		}
	}
}

// P2.1
func TestCmp(t *testing.T) {
	compare := func(a, b api.Whole) {
		t.Helper()
		if got, want := whole.Cmp(a, b), worth(a).Cmp(worth(b)); got != want {
			t.Errorf("Cmp(%v, %v): %d, not %d", a, b, got, want)
		}
	}
	for _, a := range edges() {
		for _, b := range edges() {
			compare(a, b)
		}
	}
	d := dice(2)
	for range 3000 {
		compare(d.number(3), d.number(3))
	}
}

// R3, R6: nothing that is handed in is changed, and no answer shares its words, or words with another one.
func TestOwnWords(t *testing.T) {
	calls := []func(a, b api.Whole) []api.Whole{
		func(a, b api.Whole) []api.Whole {
			return []api.Whole{whole.Make(a.Neg, a.Abs), whole.Make(b.Neg, a.Abs)}
		},
		func(a, b api.Whole) []api.Whole { return []api.Whole{whole.Neg(a), whole.Neg(b)} },
		func(a, b api.Whole) []api.Whole {
			return []api.Whole{whole.Add(a, b), whole.Sub(a, b), whole.Mul(a, b)}
		},
		func(a, b api.Whole) []api.Whole {
			return []api.Whole{whole.Sum(a), whole.Sum(b), whole.Sum(a, b), whole.Sum(a, b, a)}
		},
		func(a, b api.Whole) []api.Whole { return []api.Whole{whole.Sum([]api.Whole{b, a, b}...)} },
		func(a, b api.Whole) []api.Whole { q, r, _ := whole.Div(a, b); return []api.Whole{q, r} },
		func(a, b api.Whole) []api.Whole {
			whole.Int(a)
			whole.Sign(a)
			whole.Cmp(a, b)
			whole.Text(a)
			return nil
		},
	}
	fill := func(a []uint32) {
		for i := range a[:cap(a)] {
			a[:cap(a)][i] = 12345
		}
	}
	copied := func(l []api.Whole) []api.Whole {
		out := slices.Clone(l)
		for i := range out {
			out[i].Abs = slices.Clone(out[i].Abs)
		}
		return out
	}
	for i, call := range calls {
		for _, a := range edges() {
			for _, b := range edges() {
				was := copied([]api.Whole{a, b})
				out := call(a, b)
				if !same(a, was[0]) || !same(b, was[1]) {
					t.Fatalf("call %d changed %v or %v", i, was[0], was[1])
				}
				for j := range out {
					others := copied(out)
					fill(out[j].Abs)
					for k := range out {
						if k != j && !same(out[k], others[k]) {
							t.Fatalf("call %d: two answers share words", i)
						}
					}
				}
				if !same(a, was[0]) || !same(b, was[1]) {
					t.Fatalf("call %d: an answer shares words with %v or %v", i, was[0], was[1])
				}
			}
		}
	}
}
