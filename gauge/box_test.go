package gauge_test

import (
	"math"
	"slices"
	"testing"

	"frisket/api"
	"frisket/gauge"
)

// P14.3: by hand.
func TestBoxHand(t *testing.T) {
	boxIs(t, nil, pt(0, 0), pt(0, 0), false)
	boxIs(t, []api.Point{}, pt(0, 0), pt(0, 0), false)
	boxIs(t, []api.Point{pt(0, 0)}, pt(0, 0), pt(0, 0), true)
	boxIs(t, []api.Point{pt(5, -7)}, pt(5, -7), pt(5, -7), true)
	boxIs(t, []api.Point{pt(1, 2), pt(3, 4)}, pt(1, 2), pt(3, 4), true)
	boxIs(t, []api.Point{pt(1, 4), pt(3, 2)}, pt(1, 2), pt(3, 4), true)
	boxIs(t, []api.Point{pt(3, 4), pt(1, 2)}, pt(1, 2), pt(3, 4), true)
	boxIs(t, []api.Point{pt(-3, -4), pt(-1, -2), pt(-5, -1)}, pt(-5, -4), pt(-1, -1), true)
	boxIs(t, []api.Point{pt(3, 4), pt(10, 20), pt(5, 7)}, pt(3, 4), pt(10, 20), true)
}

// P14.3: each of four sides, told by each place, its points turned as they can be.
func TestBoxPlaces(t *testing.T) {
	inner := []api.Point{pt(12, 13), pt(14, 12), pt(13, 14)}
	for _, far := range []api.Point{{X: 5, Y: 13}, {X: 20, Y: 13}, {X: 13, Y: 5}, {X: 13, Y: 20}, {X: 5, Y: 20}, {X: 20, Y: 5}} {
		want, to := pt(min(12, far.X), min(12, far.Y)), pt(max(14, far.X), max(14, far.Y))
		for at := range 4 {
			l := slices.Insert(slices.Clone(inner), at, far)
			boxIs(t, l, want, to, true)
			slices.Reverse(l)
			boxIs(t, l, want, to, true)
			for i := range l {
				l[i] = pt(-l[i].X, -l[i].Y)
			}
			boxIs(t, l, pt(-to.X, -to.Y), pt(-want.X, -want.Y), true)
		}
	}
}

// P14.3: parts as they are, be they such as may not be.
func TestBoxAny(t *testing.T) {
	for _, x := range ends {
		for _, y := range ends {
			boxIs(t, []api.Point{pt(x, y)}, pt(x, y), pt(x, y), true)
			boxIs(t, []api.Point{pt(0, 0), pt(x, y)}, pt(min(x, 0), min(y, 0)), pt(max(x, 0), max(y, 0)), true)
			boxIs(t, []api.Point{pt(x, y), pt(y, x)}, pt(min(x, y), min(x, y)), pt(max(x, y), max(x, y)), true)
		}
	}
	boxIs(t, []api.Point{pt(1, math.MinInt), pt(math.MaxInt, 2)}, pt(1, math.MinInt), pt(math.MaxInt, 2), true)
}

// P14.3: any points: by their parts, put in order.
func TestBoxDice(t *testing.T) {
	d := dice(31)
	for range 30000 {
		l := d.points(1+d.roll(9), []int{1, 3, 40, 90000, most, 1 << 29}[d.roll(6)])
		var xs, ys []int
		for _, p := range l {
			xs, ys = append(xs, p.X), append(ys, p.Y)
		}
		slices.Sort(xs)
		slices.Sort(ys)
		boxIs(t, l, pt(xs[0], ys[0]), pt(xs[len(xs)-1], ys[len(ys)-1]), true)
	}
}

// P14.3: rows of any length, all of them.
func TestBoxLong(t *testing.T) {
	l := make([]api.Point, 100000)
	for i := range l {
		l[i] = pt(i, -2*i)
	}
	boxIs(t, l, pt(0, -199998), pt(99999, 0), true)
}

// R3: what lies behind the row that is handed in plays no part, and stays as it was.
func TestBoxLeaves(t *testing.T) {
	all := []api.Point{pt(5, 5), pt(6, 4), pt(-70, -80), pt(90, 100)}
	was := slices.Clone(all)
	boxIs(t, all[:2], pt(5, 4), pt(6, 5), true)
	boxIs(t, all[:0], pt(0, 0), pt(0, 0), false)
	if _, _, ok := gauge.Box(all[:1]); !ok || !slices.Equal(all, was) {
		t.Errorf("Box changed %v to %v", was, all)
	}
}
