package stroke_test

import (
	"slices"
	"testing"

	"frisket/api"
	"frisket/stroke"
)

// limits are a pen's limits at the edges and where miters of right angles begin: 362 times itself is below 131072, 363 times above.
var limits = []int{256, 257, 300, 362, 363, 511, 512, 1023, 1024, 1025, 4096, 8191, 8192}

// cornerIs holds what Corner answers against what is wanted.
func cornerIs(t *testing.T, a, p, b api.Point, with api.Pen, want []api.Point) {
	t.Helper()
	was := copied(with)
	if got := stroke.Corner(a, p, b, with); !slices.Equal(got, want) {
		t.Errorf("Corner(%v, %v, %v, %v): %v, not %v", a, p, b, with, got, want)
	}
	kept(t, with, was)
}

// cornerModel holds what Corner answers against the chapter's words.
func cornerModel(t *testing.T, a, p, b api.Point, with api.Pen) {
	t.Helper()
	cornerIs(t, a, p, b, with, corner(a, p, b, with))
}

// P16.2: by hand: to the left, to the right, straight on and back.
func TestCornerHand(t *testing.T) {
	const bevel, miter = api.JoinBevel, api.JoinMiter
	for _, c := range []struct {
		a, p, b            api.Point
		width, join, limit int
		want               []api.Point
	}{
		{pt(0, 0), pt(10, 0), pt(10, 10), 4, bevel, 1024, row(10, 0, 10, -2, 12, 0)},
		{pt(0, 0), pt(10, 0), pt(10, -10), 4, bevel, 1024, row(10, 0, 10, 2, 12, 0)},
		{pt(0, 0), pt(10, 0), pt(10, 10), 4, miter, 1024, row(10, 0, 10, -2, 12, -2, 12, 0)},
		{pt(0, 0), pt(10, 0), pt(10, -10), 4, miter, 1024, row(10, 0, 10, 2, 12, 2, 12, 0)},
		{pt(0, 0), pt(10, 0), pt(10, 10), 5, miter, 1024, row(10, 0, 10, -2, 12, -2, 12, 0)}, // half of 5 is 2
		{pt(0, 0), pt(10, 0), pt(10, 10), 4, miter, 363, row(10, 0, 10, -2, 12, -2, 12, 0)},
		{pt(0, 0), pt(10, 0), pt(10, 10), 4, miter, 362, row(10, 0, 10, -2, 12, 0)},
		{pt(0, 0), pt(9, 0), pt(4, 9), 4, miter, 512, row(9, 0, 9, -2, 13, -2, 11, 1)}, // aside 0 2 and -2 -1: 4 and -2, just half of 4
		{pt(0, 0), pt(9, 0), pt(4, 9), 4, miter, 511, row(9, 0, 9, -2, 11, 1)},
		{pt(0, 0), pt(1000, 0), pt(2000, 1), 4, miter, 256, row(1000, 0, 1000, -2, 1000, -2, 1000, -2)}, // hardly a turn: both Asides are the same
		{pt(0, 0), pt(1000, 0), pt(2000, 1), 4, bevel, 256, row(1000, 0, 1000, -2, 1000, -2)},
		{pt(0, 0), pt(1, 1), pt(-511, 2), 1024, miter, 8192, row(1, 1, 513, -511, 262657, 1, 2, 513)}, // a way of length 1 is led aside by more than h
		{pt(0, 0), pt(1, 1), pt(-511, 2), 1024, miter, 8191, row(1, 1, 513, -511, 2, 513)},
		{pt(0, 0), pt(10, 0), pt(20, 0), 4, bevel, 1024, nil},
		{pt(0, 0), pt(10, 0), pt(20, 0), 4, miter, 8192, nil},
		{pt(0, 0), pt(10, 0), pt(5, 0), 4, miter, 8192, nil},
		{pt(0, 0), pt(10, 0), pt(0, 0), 4, bevel, 1024, nil},
		{pt(10, 0), pt(10, 0), pt(10, 10), 4, bevel, 1024, nil},
		{pt(0, 0), pt(10, 0), pt(10, 0), 4, miter, 1024, nil},
		{pt(7, 7), pt(7, 7), pt(7, 7), 4, miter, 1024, nil},
	} {
		cornerIs(t, c.a, c.p, c.b, api.Pen{Width: c.width, Join: c.join, Limit: c.limit}, c.want)
	}
}

// P16.2: halves of a miter go up, be they above 0 or below: these corners have 8 below, so that what leads aside, put together, is halved.
func TestCornerHalves(t *testing.T) {
	for _, c := range []struct{ p, b, n, t, m api.Point }{
		{pt(10, 0), pt(18, -4), pt(0, 2), pt(1, 2), pt(1, 2)}, // 0.5 and 2
		{pt(10, 0), pt(18, 4), pt(0, -2), pt(1, -2), pt(1, -2)},
		{pt(-10, 0), pt(-18, 4), pt(0, -2), pt(0, -2), pt(-1, -2)}, // -0.5 and -2
		{pt(-10, 0), pt(-18, -4), pt(0, 2), pt(0, 2), pt(-1, 2)},
		{pt(0, 10), pt(4, 18), pt(-2, 0), pt(-2, 1), pt(-2, 1)}, // -2 and 0.5
		{pt(0, 10), pt(-4, 18), pt(2, 0), pt(2, 1), pt(2, 1)},
		{pt(0, -10), pt(4, -18), pt(-2, 0), pt(-2, 0), pt(-2, -1)}, // -2 and -0.5
		{pt(0, -10), pt(-4, -18), pt(2, 0), pt(2, 0), pt(2, -1)},
	} {
		with := api.Pen{Width: 4, Join: api.JoinMiter, Limit: 512}
		cornerIs(t, pt(0, 0), c.p, c.b, with, []api.Point{c.p, add(c.p, c.n), add(c.p, c.t), add(c.p, c.m)})
	}
}

// P16.2: discs at round corners, be there a turn or not.
func TestCornerRound(t *testing.T) {
	for _, width := range []int{2, 3, 20, 65535, 65536} {
		with := pen(width, 0, api.JoinRound)
		for _, b := range row(10, 10, 20, 0, 10, 0, 0, 0, 10, -10) {
			cornerIs(t, pt(0, 0), pt(10, 0), b, with, disc(pt(10, 0), width/2))
			cornerIs(t, pt(10, 0), pt(10, 0), b, with, disc(pt(10, 0), width/2))
		}
		for _, p := range wrongPoints() {
			cornerIs(t, p, pt(10, 0), p, with, disc(pt(10, 0), width/2))
			cornerModel(t, pt(0, 0), p, pt(10, 0), with)
		}
	}
}

// P16.2: all corners of a few steps, with widths and limits that part them.
func TestCornerSmall(t *testing.T) {
	for _, from := range row(-6, 0, -5, -2, 3, 4, 1, 1, 0, 0, 0, -3) {
		for x := -7; x <= 7; x++ {
			for y := -7; y <= 7; y++ {
				for _, width := range []int{2, 3, 4, 7, 9, 20, 65} {
					for _, limit := range limits {
						with := api.Pen{Width: width, Join: api.JoinMiter, Limit: limit}
						cornerModel(t, add(from, pt(5, 9)), pt(5, 9), pt(5+x, 9+y), with)
					}
					cornerModel(t, from, pt(0, 0), pt(x, y), pen(width, 0, api.JoinBevel))
					cornerModel(t, from, pt(0, 0), pt(x, y), pen(width, 0, api.JoinRound))
				}
			}
		}
	}
}

// P16.2: the greatest widths, limits and points, and points that may not be: these have nothing aside.
func TestCornerLimits(t *testing.T) {
	ends := row(most, most, -most, most, -most, -most, most, -most, most, 0, 0, -most, 0, 0, 1, 0, 3, -4)
	for _, a := range ends {
		for _, p := range ends {
			for _, b := range ends {
				for _, width := range []int{2, 65535, 65536} {
					for _, limit := range []int{256, 363, 1024, 8192} {
						cornerModel(t, a, p, b, api.Pen{Width: width, Join: api.JoinMiter, Limit: limit})
					}
					cornerModel(t, a, p, b, pen(width, 0, api.JoinBevel))
				}
			}
		}
	}
	for _, wrong := range wrongPoints() {
		for _, q := range row(1, 2, -most, most) {
			for _, r := range row(0, 0, 5, 8) {
				for _, with := range []api.Pen{{Width: 10, Limit: 256}, {Width: 10, Join: api.JoinMiter, Limit: 362}, {Width: 10, Join: api.JoinMiter, Limit: 363}} {
					cornerModel(t, wrong, q, r, with)
					cornerModel(t, q, wrong, r, with)
					cornerModel(t, q, r, wrong, with)
					cornerModel(t, wrong, wrong, r, with)
				}
			}
		}
	}
}

// P16.2: any corners, pens and points, against the chapter's words.
func TestCornerDice(t *testing.T) {
	d := dice(41)
	for range 60000 {
		n := []int{6, 60, 3000, most}[d.roll(4)]
		cornerModel(t, d.point(n), d.point(n), d.point(n), d.pen([]int{9, 200, mostWidth}[d.roll(3)]))
	}
}

// P16.2: of a pen that may not be there is none at corners and ends.
func TestCornerAndTipWrong(t *testing.T) {
	for _, with := range wrongPens() {
		cornerIs(t, pt(0, 0), pt(10, 0), pt(10, 10), with, nil)
		tipIs(t, pt(0, 0), pt(10, 0), with, nil)
	}
}

// tipIs holds what Tip answers against what is wanted.
func tipIs(t *testing.T, a, b api.Point, with api.Pen, want []api.Point) {
	t.Helper()
	was := copied(with)
	if got := stroke.Tip(a, b, with); !slices.Equal(got, want) {
		t.Errorf("Tip(%v, %v, %v): %v, not %v", a, b, with, got, want)
	}
	kept(t, with, was)
}

// tipModel holds what Tip answers against the chapter's words.
func tipModel(t *testing.T, a, b api.Point, with api.Pen) {
	t.Helper()
	tipIs(t, a, b, with, tip(a, b, with))
}

// P16.2: by hand.
func TestTipHand(t *testing.T) {
	const square = api.CapSquare
	for _, c := range []struct {
		a, b  api.Point
		width int
		want  []api.Point
	}{
		{pt(0, 0), pt(10, 0), 4, row(10, -2, 12, -2, 12, 2, 10, 2)},
		{pt(0, 0), pt(10, 0), 5, row(10, -2, 12, -2, 12, 2, 10, 2)},
		{pt(10, 0), pt(0, 0), 4, row(0, 2, -2, 2, -2, -2, 0, -2)},
		{pt(0, 0), pt(0, 10), 6, row(3, 10, 3, 13, -3, 13, -3, 10)},
		{pt(1, 2), pt(4, 6), 20, row(12, 0, 18, 8, 2, 20, -4, 12)},
		{pt(0, 0), pt(1, 4), 4, row(3, 3, 4, 5, 0, 7, -1, 5)},     // aside -2 and 0.5, on 0.5 and 2
		{pt(0, 0), pt(4, 1), 4, row(4, -1, 6, 0, 6, 4, 4, 3)},     // aside -0.5 and 2, on 2 and 0.5
		{pt(0, 0), pt(4, -1), 4, row(3, -3, 5, -3, 7, 1, 5, 1)},   // aside 0.5, on -0.5: both go up
		{pt(0, 0), pt(1, 1), 14, row(8, -6, 15, 1, 1, 15, -6, 8)}, // a length of 1
		{pt(3, 3), pt(3, 3), 4, nil},
	} {
		tipIs(t, c.a, c.b, pen(c.width, square, 0), c.want)
		tipIs(t, c.a, c.b, pen(c.width, api.CapButt, 1), nil)
		tipIs(t, c.a, c.b, pen(c.width, api.CapRound, 2), disc(c.b, c.width/2)) // be there a way or not
	}
}

// P16.2: all ends of ways of a few steps; at the limits, and beyond.
func TestTipLimits(t *testing.T) {
	for x := -7; x <= 7; x++ {
		for y := -7; y <= 7; y++ {
			for _, width := range []int{2, 3, 4, 5, 6, 9, 30, 65536} {
				for _, with := range pens(width) {
					tipModel(t, pt(-2, 3), pt(x-2, y+3), with)
				}
			}
		}
	}
	for _, b := range append(wrongPoints(), row(most, most, -most, most, most, -most, 0, 0)...) {
		for _, a := range row(0, 0, -most, -most, most, most, most, -most) {
			for _, width := range []int{2, 65536} {
				for _, with := range pens(width) {
					tipModel(t, a, b, with)
					tipModel(t, b, a, with)
					tipModel(t, b, b, with)
				}
			}
		}
	}
}

// P16.2: any ends, against the chapter's words.
func TestTipDice(t *testing.T) {
	d := dice(42)
	for range 30000 {
		n := []int{6, 60, 3000, most}[d.roll(4)]
		tipModel(t, d.point(n), d.point(n), d.pen([]int{9, 200, mostWidth}[d.roll(3)]))
	}
}
