package stroke_test

import (
	"math"
	"testing"

	"frisket/api"
	"frisket/gauge"
	"frisket/stroke"
)

// P16.1: by hand: against the clock, from the rightmost one on.
func TestDiscHand(t *testing.T) {
	pointsAre(t, "Disc by 65536", stroke.Disc(pt(0, 0), 65536), row(65536, 0, 60547, 25080, 46341, 46341, 25080, 60547, 0, 65536, -25080, 60547, -46341, 46341, -60547, 25080, -65536, 0, -60547, -25080, -46341, -46341, -25080, -60547, 0, -65536, 25080, -60547, 46341, -46341, 60547, -25080))
	pointsAre(t, "Disc by 10", stroke.Disc(pt(100, 200), 10), row(110, 200, 109, 204, 107, 207, 104, 209, 100, 210, 96, 209, 93, 207, 91, 204, 90, 200, 91, 196, 93, 193, 96, 191, 100, 190, 104, 191, 107, 193, 109, 196))
	pointsAre(t, "Disc by 1", stroke.Disc(pt(0, 0), 1), row(1, 0, 1, 0, 1, 1, 0, 1, 0, 1, 0, 1, -1, 1, -1, 0, -1, 0, -1, 0, -1, -1, 0, -1, 0, -1, 0, -1, 1, -1, 1, 0))
	pointsAre(t, "Disc by 0", stroke.Disc(pt(-3, 4), 0), row(-3, 4, -3, 4, -3, 4, -3, 4, -3, 4, -3, 4, -3, 4, -3, 4, -3, 4, -3, 4, -3, 4, -3, 4, -3, 4, -3, 4, -3, 4, -3, 4))
}

// P16.1: halves go up, be they above 0 or below: 25080 times 4096 by 65536 is 1567.5.
func TestDiscHalves(t *testing.T) {
	got := stroke.Disc(pt(0, 0), 4096)
	for _, c := range []struct {
		k    int
		want api.Point
	}{{1, pt(3784, 1568)}, {3, pt(1568, 3784)}, {5, pt(-1567, 3784)}, {7, pt(-3784, 1568)}, {9, pt(-3784, -1567)}, {11, pt(-1567, -3784)}, {13, pt(1568, -3784)}, {15, pt(3784, -1567)}} {
		if len(got) != 16 || got[c.k] != c.want {
			t.Fatalf("Disc by 4096: %v, not %v in %d", got, c.want, c.k)
		}
	}
}

// P16.1: all h, none of others, at any point.
func TestDiscLimits(t *testing.T) {
	for h := 0; h <= mostWidth; h += 1 + h/50 {
		pointsAre(t, "Disc", stroke.Disc(pt(0, 0), h), disc(pt(0, 0), h))
		pointsAre(t, "Disc", stroke.Disc(pt(most, -most), h), disc(pt(most, -most), h))
	}
	for h := -3; h <= 3; h++ {
		for _, p := range append(wrongPoints(), pt(0, 0), pt(5, -7)) {
			pointsAre(t, "Disc", stroke.Disc(p, h), disc(p, h))
			pointsAre(t, "Disc", stroke.Disc(p, mostWidth+h), disc(p, mostWidth+h))
		}
	}
	for _, h := range far {
		pointsAre(t, "Disc", stroke.Disc(pt(1, 2), h), nil)
	}
}

// P16.5: a disc lies around its point, against the clock, and nearly h from it.
func TestDiscAround(t *testing.T) {
	for h := 1; h <= mostWidth; h += 1 + h/7 {
		l := stroke.Disc(pt(0, 0), h)
		if gauge.Twice(l) <= 0 {
			t.Errorf("Disc by %d: the area %d", h, gauge.Twice(l))
		}
		for _, p := range l {
			if d := math.Hypot(float64(p.X), float64(p.Y)); math.Abs(d-float64(h)) > 1.5 {
				t.Errorf("Disc by %d: %v", h, p)
			}
		}
	}
}

// P16.1: by hand: on both sides of a way, its right first.
func TestBarHand(t *testing.T) {
	for _, c := range []struct {
		a, b api.Point
		h    int
		want []api.Point
	}{
		{pt(0, 0), pt(10, 0), 2, row(0, -2, 10, -2, 10, 2, 0, 2)},
		{pt(10, 0), pt(0, 0), 2, row(10, 2, 0, 2, 0, -2, 10, -2)},
		{pt(0, 0), pt(0, 10), 2, row(2, 0, 2, 10, -2, 10, -2, 0)},
		{pt(1, 2), pt(4, 6), 10, row(9, -4, 12, 0, -4, 12, -7, 8)},
		{pt(0, 0), pt(4, 1), 2, row(0, -2, 4, -1, 4, 3, 0, 2)},     // -0.5 goes up to 0
		{pt(0, 0), pt(4, -1), 2, row(-1, -2, 3, -3, 5, 1, 1, 2)},   // 0.5 up to 1
		{pt(0, 0), pt(1, 1), 7, row(7, -7, 8, -6, -6, 8, -7, 7)},   // a length of 1
		{pt(0, 0), pt(10, 0), -2, row(0, 2, 10, 2, 10, -2, 0, -2)}, // gauge's Aside, to the other side
		{pt(0, 0), pt(10, 0), 65536, row(0, -65536, 10, -65536, 10, 65536, 0, 65536)},
		{pt(0, 0), pt(10, 0), 65537, nil},
		{pt(0, 0), pt(10, 0), -65537, nil},
		{pt(0, 0), pt(10, 0), 0, nil},
		{pt(5, 5), pt(5, 5), 7, nil},
		{pt(most, most), pt(most-10, most), 3, row(most, most+3, most-10, most+3, most-10, most-3, most, most-3)},
	} {
		pointsAre(t, "Bar", stroke.Bar(c.a, c.b, c.h), c.want)
	}
}

// P16.1: ways and h of a few steps, at the limits and beyond; none, where there is nothing aside.
func TestBarLimits(t *testing.T) {
	for x := -6; x <= 6; x++ {
		for y := -6; y <= 6; y++ {
			for h := -9; h <= 9; h++ {
				a, b := pt(2, -3), pt(2+x, y-3)
				pointsAre(t, "Bar", stroke.Bar(a, b, h), bar(a, b, h))
			}
		}
	}
	for _, h := range append([]int{-mostWidth - 1, -mostWidth, -1, 0, 1, mostWidth - 1, mostWidth, mostWidth + 1}, far...) {
		for _, a := range row(0, 0, most, most, -most, most, 1, 2) {
			for _, b := range append(wrongPoints(), pt(0, 0), pt(-most, -most), pt(3, 4)) {
				pointsAre(t, "Bar", stroke.Bar(a, b, h), bar(a, b, h))
				pointsAre(t, "Bar", stroke.Bar(b, a, h), bar(b, a, h))
				pointsAre(t, "Bar", stroke.Bar(b, b, h), nil)
			}
		}
	}
	d := dice(40)
	for range 20000 {
		n := []int{5, 300, 100000, most}[d.roll(4)]
		a, b, h := d.point(n), d.point(n), d.size([]int{5, 300, mostWidth}[d.roll(3)])
		pointsAre(t, "Bar", stroke.Bar(a, b, h), bar(a, b, h))
	}
}
