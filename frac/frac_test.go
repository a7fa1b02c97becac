package frac_test

import (
	"math"
	"math/big"
	"slices"
	"testing"

	"frisket/api"
	"frisket/frac"
)

// P4.1
func TestReduce(t *testing.T) {
	for _, a := range edges() {
		is(t, "Reduce", frac.Reduce(a), worth(a))
	}
	d := dice(1)
	for range 3000 {
		a := d.number(8)
		is(t, "Reduce", frac.Reduce(a), worth(a))
		is(t, "Reduce of what is reduced", frac.Reduce(frac.Reduce(a)), worth(a))
	}
	zeros := make([]uint32, 400)
	is(t, "Reduce of many words of 0", frac.Reduce(f(true, append([]uint32{6}, zeros...), append([]uint32{4}, zeros...))), big.NewRat(-3, 2))
	long := f(true, append(slices.Clone(zeros), 6), append(slices.Clone(zeros), 9))
	is(t, "Reduce of many words in common", frac.Reduce(long), big.NewRat(-2, 3))
}

// P4.1: 0 has one form.
func TestReduceZero(t *testing.T) {
	want := f(false, nil, []uint32{1})
	for _, a := range []api.Frac{
		{}, f(true, nil, nil), f(true, []uint32{0}, []uint32{7}), f(false, nil, []uint32{0, 0, 9}), f(true, nil, []uint32{1}),
		f(true, []uint32{5}, nil), f(false, []uint32{5}, []uint32{0}), f(true, []uint32{5, 6}, []uint32{0, 0, 0}), f(false, []uint32{0, 0}, []uint32{0}),
	} {
		if got := frac.Reduce(a); !same(got, want) {
			t.Errorf("Reduce(%v): %v", a, got)
		}
	}
}

// P4.1
func TestInt(t *testing.T) {
	for _, n := range ints() {
		is(t, "Int", frac.Int(n), new(big.Rat).SetInt64(int64(n)))
	}
}

// P4.1
func TestOf(t *testing.T) {
	for _, n := range ints() {
		for _, d := range ints() {
			got, e := frac.Of(n, d)
			if d == 0 {
				if e != api.ErrZero || !zero(got) {
					t.Errorf("Of(%d, 0): %v, %v", n, got, e)
				}
				continue
			}
			if e != api.OK {
				t.Errorf("Of(%d, %d): %v", n, d, e)
			}
			is(t, "Of", got, big.NewRat(int64(n), int64(d)))
		}
	}
	for _, c := range []struct{ n, d int }{{math.MinInt, math.MinInt}, {1, math.MinInt}, {math.MinInt, -1}, {math.MinInt, math.MaxInt}} {
		got, e := frac.Of(c.n, c.d)
		if e != api.OK {
			t.Errorf("Of(%d, %d): %v", c.n, c.d, e)
		}
		is(t, "Of the least int", got, new(big.Rat).SetFrac(big.NewInt(int64(c.n)), big.NewInt(int64(c.d))))
	}
}

// P4.1
func TestMake(t *testing.T) {
	for _, n := range above() {
		for _, d := range above() {
			for _, signs := range [][2]bool{{false, false}, {true, false}, {false, true}, {true, true}} {
				got, e := frac.Make(api.Whole{Neg: signs[0], Abs: n}, api.Whole{Neg: signs[1], Abs: d})
				if size(d).Sign() == 0 {
					if e != api.ErrZero || !zero(got) {
						t.Errorf("Make of %v and %v: %v, %v", n, d, got, e)
					}
					continue
				}
				if e != api.OK {
					t.Errorf("Make of %v and %v: %v", n, d, e)
				}
				is(t, "Make", got, worth(f(signs[0] != signs[1], n, d)))
			}
		}
	}
}

// P4.5: what is equal is the same, in whatever form it was handed in.
func TestSame(t *testing.T) {
	forms := func(a api.Frac) []api.Frac {
		ns := append(list(new(big.Int).Mul(size(a.N.Abs), big.NewInt(60))), 0, 0)
		ds := append(list(new(big.Int).Mul(size(a.D), big.NewInt(60))), 0)
		return []api.Frac{a, f(a.N.Neg, ns, ds), f(a.N.Neg, append(slices.Clone(a.N.Abs), 0), append(slices.Clone(a.D), 0, 0, 0))}
	}
	for _, a := range some() {
		for _, b := range some() {
			for i, x := range forms(a) {
				y := forms(b)[(i+1)%3]
				if !same(frac.Add(x, y), frac.Add(a, b)) || !same(frac.Sub(x, y), frac.Sub(a, b)) || !same(frac.Mul(x, y), frac.Mul(a, b)) {
					t.Fatalf("%v and %v, otherwise written", a, b)
				}
				if (frac.Cmp(a, b) == 0) != same(frac.Reduce(x), frac.Reduce(y)) {
					t.Fatalf("%v and %v: equal, and not the same", x, y)
				}
			}
		}
	}
}

// R3, R6: nothing that is handed in is changed, and no answer shares its words, or words within itself or with another one.
func TestOwnWords(t *testing.T) {
	calls := []func(a, b api.Frac) []api.Frac{
		func(a, b api.Frac) []api.Frac {
			return []api.Frac{frac.Reduce(a), frac.Reduce(b), frac.Int(3), frac.Int(3)}
		},
		func(a, b api.Frac) []api.Frac { m, _ := frac.Make(a.N, b.N); return []api.Frac{m} },
		func(a, b api.Frac) []api.Frac {
			m, _ := frac.Make(a.N, api.Whole{Abs: []uint32{1}})
			return []api.Frac{m}
		},
		func(a, b api.Frac) []api.Frac {
			return []api.Frac{frac.Neg(a), frac.Half(a), frac.Neg(b), frac.Half(b)}
		},
		func(a, b api.Frac) []api.Frac { return []api.Frac{frac.Add(a, b), frac.Sub(a, b), frac.Mul(a, b)} },
		func(a, b api.Frac) []api.Frac { q, _ := frac.Div(a, b); return []api.Frac{q} },
		func(a, b api.Frac) []api.Frac {
			q, _ := frac.Div(a, a)
			return []api.Frac{q, frac.Add(a, a), frac.Sub(a, a)}
		},
		func(a, b api.Frac) []api.Frac {
			return []api.Frac{frac.Sum(a), frac.Sum(a, b), frac.Sum(b, a, b), frac.Sum()}
		},
		func(a, b api.Frac) []api.Frac { return []api.Frac{frac.Sum([]api.Frac{a, a, b, b}...), frac.Sum()} },
		func(a, b api.Frac) []api.Frac {
			return []api.Frac{{N: frac.Floor(a)}, {N: frac.Round(a)}, {N: frac.Floor(b)}}
		},
		func(a, b api.Frac) []api.Frac {
			frac.Cmp(a, b)
			frac.Sign(a)
			frac.Whole(a)
			frac.Text(a)
			return nil
		},
	}
	fill := func(a []uint32) {
		for i := range a[:cap(a)] {
			a[:cap(a)][i] = 12345
		}
	}
	copied := func(l []api.Frac) []api.Frac {
		out := slices.Clone(l)
		for i := range out {
			out[i].N.Abs, out[i].D = slices.Clone(out[i].N.Abs), slices.Clone(out[i].D)
		}
		return out
	}
	alike := func(a, b []api.Frac) bool { return slices.EqualFunc(a, b, same) }
	for i, call := range calls {
		for _, a := range some() {
			for _, b := range some() {
				was := copied([]api.Frac{a, b})
				out := call(a, b)
				if !alike([]api.Frac{a, b}, was) {
					t.Fatalf("call %d changed %v or %v", i, was[0], was[1])
				}
				for j := range out {
					want := copied(out)
					fill(out[j].N.Abs)
					want[j].N.Abs = out[j].N.Abs
					if !alike(out, want) {
						t.Fatalf("call %d: two lists of one answer, or two answers, share words", i)
					}
					fill(out[j].D)
					want[j].D = out[j].D
					if !alike(out, want) {
						t.Fatalf("call %d: two answers share words", i)
					}
				}
				if !alike([]api.Frac{a, b}, was) {
					t.Fatalf("call %d: an answer shares words with %v or %v", i, was[0], was[1])
				}
			}
		}
	}
}

// The chapter's example, and the document's second one.
func TestExample(t *testing.T) {
	a, e := frac.Of(6, -4)
	if e != api.OK || frac.Text(a) != "-3/2" {
		t.Errorf("Of(6, -4): %v, %v", a, e)
	}
	isWhole(t, "Floor", frac.Floor(a), big.NewInt(-2))
	isWhole(t, "Round", frac.Round(a), big.NewInt(-1))
	is(t, "half of 1/3", frac.Half(of(1, 3)), big.NewRat(1, 6))
}
