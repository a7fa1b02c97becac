package affine_test

import (
	"testing"

	"frisket/affine"
	"frisket/api"
)

// P10.1: each number of a map alone, at its edges and beyond.
func TestMay(t *testing.T) {
	for i := range limits {
		for _, n := range ends {
			for _, other := range []api.Map{{}, affine.Same(), {A: scale, B: scale, C: scale, D: scale, E: most, F: most}, {A: -scale, B: -scale, C: -scale, D: -scale, E: -most, F: -most}} {
				numbers := numbers(other)
				numbers[i] = n
				m := mapOf(numbers)
				if want := n >= -limits[i] && n <= limits[i]; affine.May(m) != want {
					t.Errorf("May(%v): %v", m, !want)
				}
			}
		}
	}
}

// P10.1: maps with more than one number at its edge or beyond.
func TestMayTwo(t *testing.T) {
	for i := range limits {
		for k := range limits {
			for n := range 25 {
				numbers := [6]int{}
				numbers[i] = []int{-limits[i] - 1, -limits[i], 0, limits[i], limits[i] + 1}[n%5]
				numbers[k] = []int{-limits[k] - 1, -limits[k], 0, limits[k], limits[k] + 1}[n/5]
				if m := mapOf(numbers); affine.May(m) != may(m) {
					t.Errorf("May(%v): %v", m, !may(m))
				}
			}
		}
	}
}

// P10.1: the limits are those of api.
func TestLimits(t *testing.T) {
	if api.MaxCoord != most || api.MaxScale != scale || api.Unit != 256 {
		t.Errorf("limits %d, %d, %d", api.MaxCoord, api.MaxScale, api.Unit)
	}
}

// P10.1: all points of parts at the edges and beyond.
func TestFits(t *testing.T) {
	for _, x := range ends {
		for _, y := range ends {
			p := api.Point{X: x, Y: y}
			want := x >= -8388607 && x <= 8388607 && y >= -8388607 && y <= 8388607
			if affine.Fits(p) != want {
				t.Errorf("Fits(%v): %v", p, !want)
			}
		}
	}
}

// P10.1
func TestSame(t *testing.T) {
	got := affine.Same()
	if got != (api.Map{A: 256, D: 256}) || !affine.May(got) || affine.Det(got) != 65536 || affine.Flat(got) {
		t.Errorf("Same(): %v, %v, %d, %v", got, affine.May(got), affine.Det(got), affine.Flat(got))
	}
}

// dets holds what Det and Flat answer against what is wanted.
func dets(t *testing.T, m api.Map, want int) {
	t.Helper()
	if got := affine.Det(m); got != want {
		t.Errorf("Det(%v): %d, not %d", m, got, want)
	}
	if got := affine.Flat(m); got != (want == 0) {
		t.Errorf("Flat(%v): %v, its Det is to be %d", m, got, want)
	}
}

// P10.1: by hand, turned over, and at the edges.
func TestDetHand(t *testing.T) {
	dets(t, api.Map{A: 2, B: 3, C: 5, D: 7}, -1)
	dets(t, api.Map{A: 3, B: 2, C: 7, D: 5}, 1)
	dets(t, api.Map{A: 7, B: 11, C: 13, D: 17}, 7*17-11*13)
	dets(t, api.Map{A: 256, D: -256}, -65536)
	dets(t, api.Map{B: 256, C: 256}, -65536)
	dets(t, api.Map{B: 256, C: -256}, 65536)
	dets(t, api.Map{A: scale, B: -scale, C: scale, D: scale}, 1<<31)
	dets(t, api.Map{A: scale, B: scale, C: scale, D: -scale}, -1<<31)
	dets(t, api.Map{A: -scale, B: -scale, C: scale, D: -scale}, 1<<31)
	dets(t, api.Map{A: scale, D: scale}, 1<<30)
	dets(t, api.Map{A: scale, B: scale - 1, C: scale - 1, D: scale - 2}, -1)
}

// P10.1: what leaves no area: one factor less, and it does.
func TestFlat(t *testing.T) {
	for _, m := range []api.Map{
		{}, {A: 256}, {B: 256}, {C: 256}, {D: 256}, {A: 256, B: 256}, {C: 1, D: 1}, {A: 5, C: 7}, {B: 5, D: 7}, {A: 2, B: 3, C: 4, D: 6}, {A: 2, B: -3, C: -4, D: 6}, {E: 5, F: 6}, {A: 256, B: 256, C: 256, D: 256, E: most, F: -most}, {A: scale, B: scale, C: scale, D: scale}, {A: scale, B: -scale, C: -scale, D: scale},
	} {
		dets(t, m, 0)
	}
	dets(t, api.Map{A: 2, B: 3, C: 4, D: 5}, -2)
	dets(t, api.Map{A: 2, B: 3, C: 3, D: 6}, 3)
	dets(t, api.Map{A: 1, D: 1}, 1)
	dets(t, api.Map{B: 1, C: 1}, -1)
	dets(t, api.Map{A: scale, B: scale, C: scale - 1, D: scale}, scale)
}

// P10.1: all small factors; what only shifts plays no part.
func TestDet(t *testing.T) {
	for i := range 9 * 9 * 9 * 9 {
		a, b, c, d := i%9-4, i/9%9-4, i/81%9-4, i/729-4
		want := 0
		for range max(a, -a) { // by adding alone
			if a > 0 {
				want += d
			} else {
				want -= d
			}
		}
		for range max(b, -b) {
			if b > 0 {
				want -= c
			} else {
				want += c
			}
		}
		dets(t, api.Map{A: a, B: b, C: c, D: d}, want)
		dets(t, api.Map{A: a, B: b, C: c, D: d, E: i - 3000, F: most - i}, want)
	}
}

// R1: of a map that may not be there is no number, though its product would be one.
func TestDetWrong(t *testing.T) {
	for _, m := range wrongMaps() {
		dets(t, m, 0)
	}
	for _, a := range ends {
		for _, d := range ends {
			want := 0
			if may(api.Map{A: a, D: d}) {
				want = a * d
			}
			dets(t, api.Map{A: a, D: d}, want)
			dets(t, api.Map{B: a, C: d}, -want)
		}
	}
}
