package dash_test

import (
	"slices"
	"testing"

	"frisket/api"
	"frisket/dash"
	"frisket/gauge"
)

// P15.1: by hand: on each way, at corners, and at both ends.
func TestAtHand(t *testing.T) {
	bend := row(0, 0, 10, 0, 10, 20)
	for _, c := range []struct {
		l    api.Line
		n    int
		want api.Point
		ok   bool
	}{
		{open(0, 0, 10, 0), 0, pt(0, 0), true},
		{open(0, 0, 10, 0), 3, pt(3, 0), true},
		{open(0, 0, 10, 0), 10, pt(10, 0), true},
		{open(0, 0, 10, 0), 11, pt(0, 0), false},
		{open(5, 5, 10, 5), -1, pt(0, 0), false},
		{api.Line{Pts: bend}, 9, pt(9, 0), true},
		{api.Line{Pts: bend}, 10, pt(10, 0), true},
		{api.Line{Pts: bend}, 11, pt(10, 1), true},
		{api.Line{Pts: bend}, 30, pt(10, 20), true},
		{api.Line{Pts: bend}, 31, pt(0, 0), false},
		{api.Line{Pts: bend, Closed: true}, 31, pt(10, 19), true}, // 9.55 and 19.09: the way back is 22 long, not 22.36
		{api.Line{Pts: bend, Closed: true}, 41, pt(5, 10), true},
		{api.Line{Pts: bend, Closed: true}, 51, pt(0, 1), true}, // 0.45 and 0.91
		{api.Line{Pts: bend, Closed: true}, 52, pt(0, 0), true},
		{api.Line{Pts: bend, Closed: true}, 53, pt(0, 0), false},
		{open(0, 0, 3, 4), 1, pt(1, 1), true},  // 0.6 and 0.8
		{open(0, 0, 4, 1), 2, pt(2, 1), true},  // halves go up
		{open(0, 0, 4, -1), 2, pt(2, 0), true}, // below 0, too
		{open(0, 0, 1, 1), 1, pt(1, 1), true},  // a length of 1, as the root's rest is left out
		{open(0, 0, 1, 1, 2, 2), 2, pt(2, 2), true},
		{open(0, 0, 1, 1, 2, 2), 3, pt(0, 0), false},
		{open(7, 7, 7, 7, 7, 9), 1, pt(7, 8), true}, // a way that goes nowhere has no length
		{open(7, 7, 7, 7, 7, 7), 0, pt(7, 7), true},
		{open(7, 7, 7, 7, 7, 7), 1, pt(0, 0), false},
		{open(7, 8), 0, pt(7, 8), true},
		{open(7, 8), 1, pt(0, 0), false},
		{open(7, 8), -1, pt(0, 0), false},
		{closed(7, 8), 0, pt(7, 8), true},
		{closed(7, 8), 1, pt(0, 0), false},
		{closed(7, 8, 9, 8), 3, pt(8, 8), true},
		{closed(7, 8, 9, 8), 4, pt(7, 8), true},
		{closed(7, 8, 9, 8), 5, pt(0, 0), false},
		{open(), 0, pt(0, 0), false},
		{closed(), 0, pt(0, 0), false},
	} {
		atIs(t, c.l, c.n, c.want, c.ok)
	}
}

// smallLines calls f with all lines of up to as many points of a few, open and closed.
func smallLines(many int, f func(api.Line)) {
	few := row(0, 0, 1, 0, 2, 3, -3, 1, 4, -2)
	pts := []api.Point{}
	var on func()
	on = func() {
		f(api.Line{Pts: slices.Clone(pts)})
		f(api.Line{Pts: slices.Clone(pts), Closed: true})
		if len(pts) == many {
			return
		}
		for _, p := range few {
			pts = append(pts, p)
			on()
			pts = pts[:len(pts)-1]
		}
	}
	on()
}

// P15.1: all distances of all lines of a few points.
func TestAtSmall(t *testing.T) {
	smallLines(4, func(l api.Line) {
		_, end := starts(l)
		for n := -2; n <= end+2; n++ {
			atModel(t, l, n)
		}
	})
}

// P15.1: lines along the page's edges and across it; distances at the edges and beyond.
func TestAtLimits(t *testing.T) {
	for _, l := range []api.Line{
		open(-most, -most, most, most),
		open(most, -most, -most, most, most, most),
		closed(-most, -most, most, -most, most, most, -most, most),
		closed(most, most, -most, -most),
		open(-most, most, -most, -most, most, -most, -most, most),
	} {
		far, end := starts(l)
		if end != gauge.Long(l) {
			t.Fatal("the line's length")
		}
		for _, n := range slices.Concat(edges, far, []int{end, end / 2, end / 3}) {
			atModel(t, l, n-1)
			atModel(t, l, n)
			atModel(t, l, n+1)
		}
	}
}

// P15.1: none, where a point may not be, be it further on than the distance.
func TestAtWrong(t *testing.T) {
	for _, p := range wrongPoints() {
		for _, n := range []int{-1, 0, 1, 5, 1 << 40} {
			for place := range 4 {
				pts := slices.Insert(row(0, 0, 3, 4, 6, 8), place, p)
				atIs(t, api.Line{Pts: pts}, n, pt(0, 0), false)
				atIs(t, api.Line{Pts: pts, Closed: true}, n, pt(0, 0), false)
			}
			atIs(t, api.Line{Pts: []api.Point{p}}, n, pt(0, 0), false)
			atIs(t, api.Line{Pts: []api.Point{p}, Closed: true}, n, pt(0, 0), false)
		}
	}
}

// P15.1: any lines and distances, against the chapter's words.
func TestAtDice(t *testing.T) {
	d := dice(32)
	for range 20000 {
		l := d.line(d.roll(8), []int{3, 40, 700, 90000, most, most + 1}[d.roll(6)])
		_, end := starts(l)
		atModel(t, l, d.roll(end+5)-2)
	}
}

// P15.1: what stands behind a line's points stays as it is.
func TestAtBehind(t *testing.T) {
	all := row(0, 0, 10, 0, 10, 10, 77, 78)
	l := api.Line{Pts: all[:3], Closed: true}
	atIs(t, l, 30, pt(3, 3), true) // 24 long: 10 of the 14 of the way back
	if all[3] != pt(77, 78) {
		t.Errorf("behind the line: %v", all[3])
	}
	if _, e := dash.Cut(l, []int{3}, 0); e != api.OK || all[3] != pt(77, 78) {
		t.Errorf("behind the line: %v", all[3])
	}
}
