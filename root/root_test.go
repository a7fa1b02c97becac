package root_test

import (
	"math/big"
	"slices"
	"testing"

	"frisket/nat"
	"frisket/root"
)

// follows holds what follows from the promises, by nat's own reckoning.
func follows(t *testing.T, a, b []uint32) {
	t.Helper()
	factor, common := root.Gcd(a, b), root.Lcm(a, b)
	if got, want := nat.Mul(factor, common), nat.Mul(a, b); !slices.Equal(got, want) {
		t.Errorf("Gcd times Lcm of %v and %v: %v, not %v", a, b, got, want)
	}
	first, second := root.Reduce(a, b)
	want := nat.Of(1)
	if len(factor) == 0 {
		want = nil // of 0 and 0
	}
	if got := root.Gcd(first, second); !slices.Equal(got, want) {
		t.Errorf("%v and %v, reduced to %v and %v, have %v in common", a, b, first, second, got)
	}
	if !slices.Equal(nat.Mul(first, factor), nat.Trim(a)) || !slices.Equal(nat.Mul(second, factor), nat.Trim(b)) {
		t.Errorf("%v and %v, reduced: %v and %v", a, b, first, second)
	}
}

// P3.3
func TestFollows(t *testing.T) {
	for _, a := range edges() {
		for _, b := range edges() {
			follows(t, a, b)
		}
	}
	d := dice(7)
	for range 2000 {
		a, b, factor := d.number(10), d.number(10), d.number(6)
		follows(t, a, b)
		follows(t, nat.Mul(a, factor), nat.Mul(b, factor))
		follows(t, a, nat.Mul(a, factor))
		if got := root.Sqrt(nat.Mul(a, a)); !slices.Equal(got, nat.Trim(a)) {
			t.Errorf("Sqrt of the square of %v: %v", a, got)
		}
	}
}

// R3, R6: nothing that is handed in is changed, and no answer shares its words, or words with another one.
func TestOwnWords(t *testing.T) {
	calls := []func(a, b []uint32) [][]uint32{
		func(a, b []uint32) [][]uint32 { return [][]uint32{root.Gcd(a, b), root.Gcd(b, a)} },
		func(a, b []uint32) [][]uint32 { return [][]uint32{root.Gcd(a, a), root.Gcd(a, nil), root.Gcd(nil, a)} },
		func(a, b []uint32) [][]uint32 { return [][]uint32{root.Lcm(a, b), root.Lcm(a, a)} },
		func(a, b []uint32) [][]uint32 { x, y := root.Reduce(a, b); return [][]uint32{x, y} },
		func(a, b []uint32) [][]uint32 { x, y := root.Reduce(a, a); return [][]uint32{x, y} },
		func(a, b []uint32) [][]uint32 { root.Square(a); return [][]uint32{root.Sqrt(a), root.Sqrt(b)} },
	}
	fill := func(a []uint32) {
		for i := range a[:cap(a)] {
			a[:cap(a)][i] = 12345
		}
	}
	copied := func(l [][]uint32) [][]uint32 {
		out := make([][]uint32, len(l))
		for i := range l {
			out[i] = slices.Clone(l[i])
		}
		return out
	}
	for i, call := range calls {
		for _, a := range edges() {
			for _, b := range edges() {
				was := copied([][]uint32{a, b})
				out := call(a, b)
				if !slices.Equal(a, was[0]) || !slices.Equal(b, was[1]) {
					t.Fatalf("call %d changed %v or %v", i, was[0], was[1])
				}
				for j := range out {
					others := copied(out)
					fill(out[j])
					for k := range out {
						if k != j && !slices.Equal(out[k], others[k]) {
							t.Fatalf("call %d: two answers share words", i)
						}
					}
				}
				if !slices.Equal(a, was[0]) || !slices.Equal(b, was[1]) {
					t.Fatalf("call %d: an answer shares words with %v or %v", i, was[0], was[1])
				}
			}
		}
	}
}

// The chapter's examples.
func TestExample(t *testing.T) {
	is(t, "Gcd", root.Gcd(nat.Of(12), nat.Of(18)), big.NewInt(6))
	is(t, "Lcm", root.Lcm(nat.Of(12), nat.Of(18)), big.NewInt(36))
	is(t, "Sqrt", root.Sqrt(nat.Of(24)), big.NewInt(4))
	if got := root.SqrtInt(24); got != 4 {
		t.Errorf("SqrtInt: %d", got)
	}
}
