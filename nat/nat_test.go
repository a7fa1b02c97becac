package nat_test

import (
	"math"
	"math/big"
	"slices"
	"testing"

	"frisket/nat"
)

// P1.1
func TestTrim(t *testing.T) {
	for _, c := range []struct{ a, want []uint32 }{
		{nil, nil}, {[]uint32{}, nil}, {[]uint32{0}, nil}, {[]uint32{0, 0, 0}, nil},
		{[]uint32{5}, []uint32{5}}, {[]uint32{5, 0, 0}, []uint32{5}},
		{[]uint32{0, 5}, []uint32{0, 5}}, {[]uint32{0, 5, 0, 7, 0}, []uint32{0, 5, 0, 7}},
		{[]uint32{top, top, top}, []uint32{top, top, top}},
	} {
		if got := nat.Trim(c.a); !slices.Equal(got, c.want) {
			t.Errorf("Trim(%v): %v, not %v", c.a, got, c.want)
		}
	}
}

// P1.1
func TestOf(t *testing.T) {
	for _, c := range []struct {
		v    uint64
		want []uint32
	}{
		{0, nil}, {1, []uint32{1}}, {1<<32 - 1, []uint32{top}}, {1 << 32, []uint32{0, 1}}, {1<<32 + 1, []uint32{1, 1}},
		{1 << 63, []uint32{0, 1 << 31}}, {math.MaxUint64 - 1, []uint32{top - 1, top}}, {math.MaxUint64, []uint32{top, top}},
	} {
		if got := nat.Of(c.v); !slices.Equal(got, c.want) {
			t.Errorf("Of(%d): %v, not %v", c.v, got, c.want)
		}
	}
}

// P1.1
func TestUint(t *testing.T) {
	for _, c := range []struct {
		a    []uint32
		want uint64
		ok   bool
	}{
		{nil, 0, true}, {[]uint32{0, 0, 0}, 0, true}, {[]uint32{7}, 7, true}, {[]uint32{7, 0, 0, 0}, 7, true},
		{[]uint32{top}, 1<<32 - 1, true}, {[]uint32{0, 1}, 1 << 32, true}, {[]uint32{1, 2, 0}, 1<<33 + 1, true},
		{[]uint32{top, top}, math.MaxUint64, true}, {[]uint32{top, top, 0}, math.MaxUint64, true},
		{[]uint32{0, 0, 1}, 0, false}, {[]uint32{5, 6, 1}, 0, false}, {[]uint32{5, 0, 0, 1, 0}, 0, false},
	} {
		if got, ok := nat.Uint(c.a); got != c.want || ok != c.ok {
			t.Errorf("Uint(%v): %d, %v, not %d, %v", c.a, got, ok, c.want, c.ok)
		}
	}
}

// P1.1
func TestCmpAndBits(t *testing.T) {
	for _, a := range edges() {
		if got, want := nat.Bits(a), worth(a).BitLen(); got != want {
			t.Errorf("Bits(%v): %d, not %d", a, got, want)
		}
		for _, b := range edges() {
			if got, want := nat.Cmp(a, b), worth(a).Cmp(worth(b)); got != want {
				t.Errorf("Cmp(%v, %v): %d, not %d", a, b, got, want)
			}
		}
	}
	if got := nat.Cmp([]uint32{9, 1, 5}, []uint32{1, 2, 5}); got != -1 {
		t.Errorf("a higher word must tell ahead of a lower one: %d", got)
	}
	for n := range 200 {
		if got := nat.Bits(nat.Shift([]uint32{1, 0}, n)); got != n+1 {
			t.Errorf("Bits of 2^%d: %d", n, got)
		}
	}
}

// P1.5
func TestBackAgain(t *testing.T) {
	back := func(a, b []uint32) {
		t.Helper()
		left, ok := nat.Sub(nat.Add(a, b), b)
		if !ok || !slices.Equal(left, nat.Trim(a)) {
			t.Errorf("%v and %v, without the latter: %v, %v", a, b, left, ok)
		}
		often, rest, ok := nat.Div(nat.Mul(a, b), b)
		if len(nat.Trim(b)) == 0 {
			if ok {
				t.Errorf("divided by 0: %v", often)
			}
		} else if !ok || !slices.Equal(often, nat.Trim(a)) || len(rest) != 0 {
			t.Errorf("%v times %v, by the latter: %v and %v, %v", a, b, often, rest, ok)
		}
	}
	for _, a := range edges() {
		for _, b := range edges() {
			back(a, b)
		}
	}
	d := dice(5)
	for range 2000 {
		back(d.number(20), d.number(20))
	}
}

// R3, R6: nothing that is handed in is changed, and no answer shares its words, or words with another one.
func TestOwnWords(t *testing.T) {
	calls := []func(a, b []uint32) [][]uint32{
		func(a, b []uint32) [][]uint32 { return [][]uint32{nat.Trim(a), nat.Trim(b)} },
		func(a, b []uint32) [][]uint32 { return [][]uint32{nat.Add(a, b), nat.Mul(a, b)} },
		func(a, b []uint32) [][]uint32 { l, _ := nat.Sub(a, b); return [][]uint32{l} },
		func(a, b []uint32) [][]uint32 { q, r, _ := nat.Div(a, b); return [][]uint32{q, r} },
		func(a, b []uint32) [][]uint32 {
			return [][]uint32{nat.Shift(a, 0), nat.Shift(b, 33), nat.Shift(a, -32)}
		},
		func(a, b []uint32) [][]uint32 {
			v, _ := nat.Uint(a)
			nat.Cmp(a, b)
			nat.Bits(a)
			nat.Text(a)
			return [][]uint32{nat.Of(v)}
		},
	}
	fill := func(a []uint32) {
		for i := range a[:cap(a)] {
			a[:cap(a)][i] = 12345
		}
	}
	for i, call := range calls {
		for _, a := range edges() {
			for _, b := range edges() {
				wasA, wasB := slices.Clone(a), slices.Clone(b)
				out := call(a, b)
				if !slices.Equal(a, wasA) || !slices.Equal(b, wasB) {
					t.Fatalf("call %d changed %v or %v", i, wasA, wasB)
				}
				for j := range out {
					was := slices.Clone(out)
					for k := range was {
						was[k] = slices.Clone(out[k])
					}
					fill(out[j])
					for k := range out {
						if k != j && !slices.Equal(out[k], was[k]) {
							t.Fatalf("call %d: two answers share words", i)
						}
					}
				}
				if !slices.Equal(a, wasA) || !slices.Equal(b, wasB) {
					t.Fatalf("call %d: an answer shares words with %v or %v", i, wasA, wasB)
				}
			}
		}
	}
}

// The chapter's example.
func TestExample(t *testing.T) {
	if got := nat.Mul(nat.Of(4294967295), nat.Of(4294967295)); !slices.Equal(got, []uint32{1, 4294967294}) {
		t.Error(got)
	}
	is(t, "Mul", nat.Mul([]uint32{top, 0}, []uint32{top, 0, 0}), new(big.Int).SetUint64(18446744065119617025))
}
