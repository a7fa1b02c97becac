package gauge_test

import (
	"testing"

	"frisket/api"
	"frisket/gauge"
)

// P14.2: the chapter's example, and others by hand, from any point.
func TestAsideHand(t *testing.T) {
	for _, c := range []struct {
		to   api.Point
		h    int
		want api.Point
	}{
		{pt(3, 4), 10, pt(-8, 6)},
		{pt(3, 4), -10, pt(8, -6)},
		{pt(3, 4), 0, pt(0, 0)},
		{pt(-3, -4), 10, pt(8, -6)},
		{pt(1, 0), 5, pt(0, 5)},
		{pt(1000, 0), 5, pt(0, 5)},
		{pt(-1, 0), 5, pt(0, -5)},
		{pt(0, 1), 5, pt(-5, 0)},
		{pt(0, -7), 5, pt(5, 0)},
		{pt(10, 0), 2, pt(0, 2)},
		{pt(1, 1), 7, pt(-7, 7)}, // a length of 1, as the root's rest is left out
		{pt(6, 8), 1, pt(-1, 1)}, // -0.8 and 0.6
		{pt(8, 6), 1, pt(-1, 1)}, // -0.6 and 0.8
		{pt(4, 2), 6, pt(-3, 6)}, // a length of 4
		{pt(3, 4), 2, pt(-2, 1)}, // -1.6 and 1.2
		{pt(4, 1), 2, pt(0, 2)},  // a half below 0: up
		{pt(4, -1), 2, pt(1, 2)}, // a half above 0: up
		{pt(1, 4), 2, pt(-2, 1)}, // likewise of Y
		{pt(-1, 4), 2, pt(-2, 0)},
		{pt(4, 1), -2, pt(1, -2)},
		{pt(3, 4), width, pt(-52429, 39322)},  // -52428.8 and 39321.6
		{pt(-3, 4), -width, pt(52429, 39322)}, // 52428.8 and 39321.6
		{pt(3, 4), width + 1, pt(0, 0)},
		{pt(3, 4), -width - 1, pt(0, 0)},
		{pt(0, 0), 5, pt(0, 0)},
		{pt(0, most/2), width, pt(-width, 0)},
		{pt(most/2, 0), -width, pt(0, -width)},
		{pt(-most/2, 0), -width, pt(0, +width)},
	} {
		for _, from := range []api.Point{{}, {X: 5, Y: -9}, {X: -100000, Y: 100000}} {
			asideIs(t, from, pt(from.X+c.to.X, from.Y+c.to.Y), c.h, c.want)
		}
	}
}

// P14.2: all ways and offsets of a few steps: to the left, and as far as it is told.
func TestAsideSmall(t *testing.T) {
	for x := -9; x <= 9; x++ {
		for y := -9; y <= 9; y++ {
			for h := -12; h <= 12; h++ {
				asideIs(t, pt(0, 0), pt(x, y), h, aside(pt(0, 0), pt(x, y), h))
				asideIs(t, pt(-x, 4), pt(0, y+4), h, aside(pt(0, 0), pt(x, y), h))
				to := gauge.Aside(pt(0, 0), pt(x, y), h)
				if left := x*to.Y - y*to.X; left*h < 0 {
					t.Errorf("Aside of %d %d by %d: %v is on the other side", x, y, h, to)
				}
			}
		}
	}
}

// P14.2: points and offsets at the limits and beyond; no offset beyond them, be the points as they are.
func TestAsideLimits(t *testing.T) {
	for _, a := range limitPoints() {
		for _, b := range limitPoints() {
			for _, h := range []int{-width - 1, -width, -1, 1, width - 1, width, width + 1} {
				asideIs(t, a, b, h, aside(a, b, h))
			}
		}
	}
	for _, h := range ends {
		asideIs(t, pt(1, 2), pt(-5, 9), h, aside(pt(1, 2), pt(-5, 9), h))
		if h < -width || h > width {
			asideIs(t, pt(-most, -most), pt(most, most), h, pt(0, 0))
		}
	}
}

// P14.2: zeros, where a point may not be.
func TestAsideWrong(t *testing.T) {
	for _, p := range wrongPoints() {
		for _, q := range []api.Point{{}, {X: 3, Y: 4}, {X: most, Y: -most}, p} {
			for _, h := range []int{-width, -3, 0, 1, width, width + 1} {
				asideIs(t, p, q, h, pt(0, 0))
				asideIs(t, q, p, h, pt(0, 0))
			}
		}
	}
}

// P14.2: any offsets, against the chapter's words.
func TestAsideDice(t *testing.T) {
	d := dice(22)
	for range 50000 {
		n := []int{3, 40, 700, 90000, most, most + 1}[d.roll(6)]
		a, b, h := d.point(n), d.point(n), d.size([]int{5, 300, width, width + 1}[d.roll(4)])
		asideIs(t, a, b, h, aside(a, b, h))
	}
}

// P14.2: by hand.
func TestAheadHand(t *testing.T) {
	for _, c := range []struct {
		to   api.Point
		n    int
		want api.Point
	}{
		{pt(3, 4), 0, pt(0, 0)},
		{pt(3, 4), 1, pt(1, 1)}, // 0.6 and 0.8
		{pt(3, 4), 2, pt(1, 2)}, // 1.2 and 1.6
		{pt(3, 4), 5, pt(3, 4)},
		{pt(3, 4), 10, pt(6, 8)}, // beyond b
		{pt(-3, -4), 2, pt(-1, -2)},
		{pt(-3, 4), 10, pt(-6, 8)},
		{pt(4, 1), 2, pt(2, 1)},   // a half above 0: up
		{pt(4, -1), 2, pt(2, 0)},  // a half below 0: up
		{pt(1, -4), 2, pt(1, -2)}, // likewise of X
		{pt(-1, 4), 2, pt(0, 2)},
		{pt(1, 1), 1, pt(1, 1)}, // a length of 1, as the root's rest is left out
		{pt(1, 1), 9, pt(9, 9)},
		{pt(10, 0), 3, pt(3, 0)},
		{pt(0, -10), 13, pt(0, -13)},
		{pt(3, 4), -1, pt(0, 0)},
		{pt(3, 4), ahead, pt(20132659, 26843546)}, // 20132659.2 and 26843545.6
		{pt(3, 4), ahead + 1, pt(0, 0)},
		{pt(-1, 0), ahead, pt(-ahead, 0)},
		{pt(0, 0), 7, pt(0, 0)},
	} {
		for _, from := range []api.Point{{}, {X: 5, Y: -9}, {X: -100000, Y: 100000}} {
			aheadIs(t, from, pt(from.X+c.to.X, from.Y+c.to.Y), c.n, pt(from.X+c.want.X, from.Y+c.want.Y))
		}
	}
}

// P14.2: all ways of a few steps, from nothing to beyond them.
func TestAheadSmall(t *testing.T) {
	for x := -9; x <= 9; x++ {
		for y := -9; y <= 9; y++ {
			for n := -3; n <= 30; n++ {
				aheadIs(t, pt(0, 0), pt(x, y), n, aheadOf(pt(0, 0), pt(x, y), n))
				aheadIs(t, pt(-x, 4), pt(0, y+4), n, aheadOf(pt(-x, 4), pt(0, y+4), n))
			}
		}
	}
}

// P14.2: points and lengths at the limits and beyond; there one doesn't go on.
func TestAheadLimits(t *testing.T) {
	for _, a := range limitPoints() {
		for _, b := range limitPoints() {
			for _, n := range []int{-1, 0, 1, most, ahead - 1, ahead, ahead + 1} {
				aheadIs(t, a, b, n, aheadOf(a, b, n))
			}
		}
	}
	for _, n := range ends {
		aheadIs(t, pt(1, 2), pt(-5, 9), n, aheadOf(pt(1, 2), pt(-5, 9), n))
		if n < 0 || n > ahead {
			aheadIs(t, pt(-most, 5), pt(most, most), n, pt(-most, 5))
		}
	}
	aheadIs(t, pt(-most, -most), pt(most, most), ahead, aheadOf(pt(-most, -most), pt(most, most), ahead))
}

// P14.2: a as it is, where a point may not be.
func TestAheadWrong(t *testing.T) {
	for _, p := range wrongPoints() {
		for _, q := range []api.Point{{}, {X: 3, Y: 4}, {X: most, Y: -most}, p} {
			for _, n := range []int{-1, 0, 1, 5000, ahead, ahead + 1} {
				aheadIs(t, p, q, n, p)
				aheadIs(t, q, p, n, q)
			}
		}
	}
}

// P14.2: any ways, against the chapter's words. P14.4: going on by its length one comes to a way's end.
func TestAheadDice(t *testing.T) {
	d := dice(23)
	for range 50000 {
		size := []int{3, 40, 700, 90000, most, most + 1}[d.roll(6)]
		a, b := d.point(size), d.point(size)
		n := d.roll(gauge.Len(a, b)*[]int{1, 2}[d.roll(2)] + 2)
		aheadIs(t, a, b, n, aheadOf(a, b, n))
		if fits(a, b) {
			aheadIs(t, a, b, gauge.Len(a, b), b)
		}
	}
}

// P14.4: going on by its length one comes to a way's end: all of a few steps, and the furthest.
func TestAheadEnd(t *testing.T) {
	for x := -40; x <= 40; x++ {
		for y := -40; y <= 40; y++ {
			aheadIs(t, pt(0, 0), pt(x, y), gauge.Len(pt(0, 0), pt(x, y)), pt(x, y))
		}
	}
	for _, a := range limitPoints() {
		for _, b := range limitPoints() {
			aheadIs(t, a, b, gauge.Len(a, b), b)
		}
	}
}
