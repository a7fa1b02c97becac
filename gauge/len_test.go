package gauge_test

import (
	"slices"
	"testing"

	"frisket/api"
	"frisket/gauge"
)

// The limits are those of api.
func TestLimits(t *testing.T) {
	if api.MaxCoord != most || api.MaxWidth != width {
		t.Errorf("limits %d, %d", api.MaxCoord, api.MaxWidth)
	}
}

// P14.1: the chapter's example, and others by hand.
func TestLenHand(t *testing.T) {
	for _, c := range []struct{ x, y, want int }{
		{0, 0, 0}, {1, 0, 1}, {0, 1, 1}, {1, 1, 1}, {2, 1, 2}, {2, 2, 2}, {3, 3, 4}, {3, 4, 5}, {4, 3, 5}, {5, 12, 13}, {6, 8, 10}, {8, 15, 17}, {7, 7, 9}, {10, 10, 14}, {70, 70, 98}, {99, 20, 101}, {256, 256, 362}, {8388607, 0, 8388607},
	} {
		for _, from := range []api.Point{{}, {X: 5, Y: -9}, {X: -100000, Y: 100000}} {
			for _, to := range []api.Point{{X: c.x, Y: c.y}, {X: -c.x, Y: c.y}, {X: c.x, Y: -c.y}, {X: -c.x, Y: -c.y}, {X: c.y, Y: c.x}, {X: -c.y, Y: c.x}} {
				to.X, to.Y = to.X+from.X, to.Y+from.Y
				if fits(to) {
					lenIs(t, from, to, c.want)
				}
			}
		}
	}
}

// P14.1: what is left of the root is left out, on both sides of each square.
func TestLenRoot(t *testing.T) {
	for x := range 200 {
		for y := range 200 {
			n := gauge.Len(pt(-7, 3), pt(x-7, y+3))
			if n*n > x*x+y*y || (n+1)*(n+1) <= x*x+y*y {
				t.Errorf("Len by %d, %d: %d", x, y, n)
			}
		}
	}
}

// P14.1: points at the limits, the furthest from one another among them.
func TestLenLimits(t *testing.T) {
	for _, a := range limitPoints() {
		for _, b := range limitPoints() {
			lenIs(t, a, b, long(a, b))
		}
	}
	lenIs(t, pt(-most, 0), pt(most, 0), 16777214)
	lenIs(t, pt(-most, -most), pt(most, most), 23726563)
	lenIs(t, pt(most, -most), pt(-most, most), 23726563)
}

// P14.1: a point that may not be, on either side, be it the same one, too.
func TestLenWrong(t *testing.T) {
	for _, p := range wrongPoints() {
		for _, q := range []api.Point{{}, {X: 3, Y: 4}, {X: most, Y: -most}, {X: p.X}, {Y: p.Y}, {X: p.X + 1, Y: p.Y}, p} {
			lenIs(t, p, q, 0)
		}
	}
	for _, x := range ends {
		for _, y := range ends {
			lenIs(t, pt(1, 2), pt(x, y), long(pt(1, 2), pt(x, y)))
		}
	}
}

// P14.1: any ways, against the chapter's words.
func TestLenDice(t *testing.T) {
	d := dice(11)
	for range 50000 {
		n := []int{3, 40, 700, 90000, most, most + 1}[d.roll(6)]
		a, b := d.point(n), d.point(n)
		lenIs(t, a, b, long(a, b))
	}
}

// P14.1: lines by hand, open and closed.
func TestLongHand(t *testing.T) {
	a, b, c, d := pt(0, 0), pt(3, 4), pt(3, -8), pt(1, 1)
	for _, x := range []struct {
		l          []api.Point
		open, shut int
	}{
		{nil, 0, 0},
		{[]api.Point{}, 0, 0},
		{[]api.Point{b}, 0, 0},
		{[]api.Point{b, b}, 0, 0},
		{[]api.Point{b, b, b}, 0, 0},
		{[]api.Point{a, b}, 5, 10},
		{[]api.Point{b, a}, 5, 10},
		{[]api.Point{a, b, a}, 10, 10},
		{[]api.Point{a, b, c}, 17, 25}, // 8.54 from c to a
		{[]api.Point{c, b, a}, 17, 25},
		{[]api.Point{b, c, a}, 20, 25},
		{[]api.Point{a, b, b, c, c}, 17, 25},
		{[]api.Point{a, b, c, a}, 25, 25},
		{[]api.Point{a, d, a, d, a}, 4, 4}, // each way by itself: 1 of 1.41 each
		{[]api.Point{a, d, pt(2, 2), pt(3, 3)}, 3, 7},
		{[]api.Point{pt(0, 0), pt(10, 0), pt(10, 10), pt(0, 10)}, 30, 40},
	} {
		longIs(t, false, x.l, x.open)
		longIs(t, true, x.l, x.shut)
	}
}

// P14.1: all rows of up to five of three points, against the chapter's words.
func TestLongSmall(t *testing.T) {
	few := []api.Point{pt(0, 0), pt(9, 0), pt(5, 6)}
	for i := range 4 * 4 * 4 * 4 * 4 {
		var l []api.Point
		for n := i; n > 0; n /= 4 {
			if n%4 > 0 {
				l = append(l, few[n%4-1])
			}
		}
		longIs(t, false, l, longs(api.Line{Pts: l}))
		longIs(t, true, l, longs(api.Line{Pts: l, Closed: true}))
	}
}

// P14.1: a point that may not be, in each place, is the end of all, be it on no way, too.
func TestLongWrong(t *testing.T) {
	for _, p := range wrongPoints() {
		for many := range 5 {
			for at := range many + 1 {
				l := make([]api.Point, many)
				for i := range l {
					l[i] = pt(100*i*i, -3*i)
				}
				l = slices.Insert(l, at, p)
				longIs(t, false, l, 0)
				longIs(t, true, l, 0)
			}
		}
		longIs(t, true, []api.Point{p, p, p}, 0)
	}
}

// P14.1: any lines, against the chapter's words.
func TestLongDice(t *testing.T) {
	d := dice(12)
	for range 20000 {
		l := d.points(d.roll(9), []int{3, 40, 700, 90000, most, most + 1}[d.roll(6)])
		longIs(t, false, l, longs(api.Line{Pts: l}))
		longIs(t, true, l, longs(api.Line{Pts: l, Closed: true}))
	}
}

// P14.1: lines of any length go through all of it.
func TestLongFar(t *testing.T) {
	l := make([]api.Point, 200000)
	for i := range l {
		l[i] = pt((i%2*2-1)*most, 0)
	}
	longIs(t, false, l, 199999*16777214)
	longIs(t, true, l, 200000*16777214)
	l[199999].X = -most
	longIs(t, false, l, 199998*16777214)
	longIs(t, true, l, 199998*16777214)
	l[199999].Y = most + 1
	longIs(t, false, l, 0)
	longIs(t, true, l, 0)
}

// R3: what lies behind the row that is handed in stays as it was.
func TestLongLeaves(t *testing.T) {
	for _, closed := range []bool{false, true} {
		all := []api.Point{pt(1, 2), pt(3, 4), pt(5, 9), pt(7, 8), pt(9, 10)}
		was := slices.Clone(all)
		for n := range 5 {
			longIs(t, closed, all[:n], longs(api.Line{Pts: was[:n], Closed: closed}))
			if !slices.Equal(all, was) {
				t.Fatalf("Long of the first %d changed %v to %v", n, was, all)
			}
		}
	}
}
