package nat_test

import (
	"math"
	"math/big"
	"testing"

	"frisket/api"
	"frisket/nat"
)

// shifted answers a times 2^n, or by 2^-n, by the library's own reckoning.
func shifted(a []uint32, n int) *big.Int {
	if n < 0 {
		return new(big.Int).Rsh(worth(a), uint(-n))
	}
	return new(big.Int).Lsh(worth(a), uint(n))
}

// P1.3
func TestShiftOfEdges(t *testing.T) {
	for _, a := range edges() {
		for n := -300; n <= 300; n++ {
			is(t, "Shift", nat.Shift(a, n), shifted(a, n))
		}
	}
}

// P1.3: as far as may be.
func TestShiftFar(t *testing.T) {
	a := nat.Shift([]uint32{top, 0, 0x12345678, 0}, 4090)
	for n := -api.MaxShift; n <= api.MaxShift; n++ {
		is(t, "Shift", nat.Shift(a, n), shifted(a, n))
	}
	if got := nat.Bits(nat.Shift([]uint32{1}, api.MaxShift)); got != api.MaxShift+1 {
		t.Errorf("2^MaxShift has %d bits", got)
	}
	long := make([]uint32, api.MaxShift/32+1)
	long[api.MaxShift/32] = 5
	if got := nat.Text(nat.Shift(long, -api.MaxShift)); got != "5" {
		t.Errorf("5 times 2^MaxShift, by 2^MaxShift: %s", got)
	}
}

// P1.3: farther than may be.
func TestShiftBeyond(t *testing.T) {
	long := make([]uint32, 1000)
	long[999] = 1
	for _, a := range append(edges(), long) {
		for _, n := range []int{api.MaxShift + 1, -api.MaxShift - 1, api.MaxShift + 32, -api.MaxShift - 32, math.MaxInt, math.MinInt, math.MinInt + 1, math.MaxInt32, math.MinInt32} {
			if got := nat.Shift(a, n); len(got) != 0 {
				t.Errorf("Shift(%v, %d): %v", a, n, got)
			}
		}
	}
}
