package stroke_test

import (
	"math"
	"slices"
	"testing"

	"frisket/api"
	"frisket/gauge"
	"frisket/stroke"
)

// P16.3: the chapter's example, and others by hand: ways first, then corners, then ends.
func TestLineHand(t *testing.T) {
	bevel := pen(4, api.CapButt, api.JoinBevel)
	for _, c := range []struct {
		l    api.Line
		with api.Pen
		want [][]api.Point
	}{
		{open(0, 0, 10, 0), bevel, [][]api.Point{row(0, -2, 10, -2, 10, 2, 0, 2)}},
		{open(0, 0, 10, 0), pen(4, api.CapSquare, 0), [][]api.Point{row(0, -2, 10, -2, 10, 2, 0, 2), row(0, 2, -2, 2, -2, -2, 0, -2), row(10, -2, 12, -2, 12, 2, 10, 2)}},
		{open(0, 0, 10, 0), pen(4, api.CapRound, 0), [][]api.Point{row(0, -2, 10, -2, 10, 2, 0, 2), disc(pt(0, 0), 2), disc(pt(10, 0), 2)}},
		{open(0, 0, 10, 0, 10, 10), bevel, [][]api.Point{row(0, -2, 10, -2, 10, 2, 0, 2), row(12, 0, 12, 10, 8, 10, 8, 0), row(10, 0, 10, -2, 12, 0)}},
		{open(0, 0, 10, 0, 10, -10), bevel, [][]api.Point{row(0, -2, 10, -2, 10, 2, 0, 2), row(8, 0, 8, -10, 12, -10, 12, 0), row(12, 0, 10, 2, 10, 0)}}, // the corner goes with the clock, so it is turned round
		{open(0, 0, 10, 0, 10, -10), pen(4, 0, api.JoinMiter), [][]api.Point{row(0, -2, 10, -2, 10, 2, 0, 2), row(8, 0, 8, -10, 12, -10, 12, 0), row(12, 0, 12, 2, 10, 2, 10, 0)}},
		{open(0, 0, 10, 0, 20, 0), bevel, [][]api.Point{row(0, -2, 10, -2, 10, 2, 0, 2), row(10, -2, 20, -2, 20, 2, 10, 2)}}, // straight on: no corner
		{open(0, 0, 10, 0, 20, 0), pen(4, 0, api.JoinRound), [][]api.Point{row(0, -2, 10, -2, 10, 2, 0, 2), row(10, -2, 20, -2, 20, 2, 10, 2), disc(pt(10, 0), 2)}},
		{open(0, 0, 1000, 0, 2000, 1), bevel, [][]api.Point{row(0, -2, 1000, -2, 1000, 2, 0, 2), row(1000, -2, 2000, -1, 2000, 3, 1000, 2)}}, // the corner has no area
		{closed(0, 0, 10, 0), bevel, [][]api.Point{row(0, -2, 10, -2, 10, 2, 0, 2), row(10, 2, 0, 2, 0, -2, 10, -2)}},
		{closed(0, 0, 10, 0), pen(4, 2, api.JoinRound), [][]api.Point{row(0, -2, 10, -2, 10, 2, 0, 2), row(10, 2, 0, 2, 0, -2, 10, -2), disc(pt(0, 0), 2), disc(pt(10, 0), 2)}},
		{closed(0, 0, 10, 0, 10, 10), pen(4, 2, 0), [][]api.Point{row(0, -2, 10, -2, 10, 2, 0, 2), row(12, 0, 12, 10, 8, 10, 8, 0), row(9, 11, -1, 1, 1, -1, 11, 9), row(0, 0, -1, 1, 0, -2), row(10, 0, 10, -2, 12, 0), row(10, 10, 12, 10, 9, 11)}},
		{open(0, 0), pen(4, 2, 2), nil},
		{closed(0, 0), pen(4, 2, 2), nil},
		{open(), pen(4, 2, 2), nil},
		{closed(), pen(4, 2, 2), nil},
		{open(3, 4, 3, 4, 3, 4), pen(4, 2, 2), nil},
		{closed(3, 4, 3, 4, 3, 4), pen(4, 2, 2), nil},
	} {
		lineIs(t, c.l, c.with, c.want, api.OK)
	}
}

// P16.3: points that are as the one ahead don't count, nor a closed line's last one that is as the first one.
func TestLineSame(t *testing.T) {
	for _, with := range pens(6) {
		for _, c := range []struct{ l, as api.Line }{
			{open(0, 0, 0, 0, 10, 0, 10, 0, 10, 0, 10, 7, 10, 7), open(0, 0, 10, 0, 10, 7)},
			{closed(0, 0, 0, 0, 10, 0, 10, 0, 10, 0, 10, 7, 10, 7), closed(0, 0, 10, 0, 10, 7)},
			{closed(0, 0, 10, 0, 10, 7, 0, 0), closed(0, 0, 10, 0, 10, 7)},
			{closed(0, 0, 0, 0, 10, 0, 10, 7, 0, 0, 0, 0), closed(0, 0, 10, 0, 10, 7)},
			{closed(0, 0, 10, 0, 0, 0), closed(0, 0, 10, 0)},
		} {
			want, e := stroke.Line(c.as, with)
			lineIs(t, c.l, with, want, e)
			lineModel(t, c.as, with)
			if e != api.OK || len(want) < 2 {
				t.Errorf("Line(%v, %v): %v, %v", c.as, with, want, e)
			}
		}
		ring, _ := stroke.Line(open(0, 0, 10, 0, 10, 7, 0, 0), with)
		lineModel(t, open(0, 0, 10, 0, 10, 7, 0, 0), with) // an open line's last one stays
		if all, _ := stroke.Line(closed(0, 0, 10, 0, 10, 7), with); same(ring, all) {
			t.Errorf("by %v an open line is as a closed one", with)
		}
	}
}

// P16.3: ErrArg ahead of ErrRange, at all lines, be they of one point.
func TestLineWrong(t *testing.T) {
	for _, with := range wrongPens() {
		for _, l := range []api.Line{open(), closed(0, 0), open(0, 0, 10, 0), closed(0, 0, 10, 0, 10, 10), open(most+1, 0), open(0, 0, 0, -most-1), open(0, most, 10, most)} {
			lineIs(t, l, with, nil, api.ErrArg)
		}
	}
	for _, with := range append(pens(2), pens(65536)...) {
		for _, p := range wrongPoints() {
			for place := range 4 {
				lineIs(t, api.Line{Pts: slices.Insert(row(0, 0, 50, 0, 50, 60), place, p)}, with, nil, api.ErrRange)
				lineIs(t, api.Line{Pts: slices.Insert(row(0, 0, 50, 0, 50, 60), place, p), Closed: true}, with, nil, api.ErrRange)
			}
			lineIs(t, api.Line{Pts: []api.Point{p}}, with, nil, api.ErrRange)
			lineIs(t, api.Line{Pts: []api.Point{p, p}, Closed: true}, with, nil, api.ErrRange)
		}
	}
}

// P16.3: ErrRange of what is drawn: by a way alone, by a corner alone, by an end alone, a step beyond the edge and not on it.
func TestLineRange(t *testing.T) {
	for _, c := range []struct {
		l    api.Line
		with api.Pen
		e    api.Errno
	}{
		{open(0, most-2, 10, most-2), pen(4, 0, 0), api.OK},
		{open(0, most-1, 10, most-1), pen(4, 0, 0), api.ErrRange},
		{open(10, most-1, 0, most-1), pen(4, 0, 0), api.ErrRange},
		{open(0, 2-most, 10, 2-most), pen(4, 0, 0), api.OK},
		{open(0, 1-most, 10, 1-most), pen(4, 0, 0), api.ErrRange},
		{open(most-10, 0, most, 0), pen(4, 0, 0), api.OK},
		{open(most-10, 0, most-2, 0), pen(4, api.CapSquare, 0), api.OK},
		{open(most-10, 0, most-1, 0), pen(4, api.CapSquare, 0), api.ErrRange},
		{open(most-1, 0, most-10, 0), pen(4, api.CapSquare, 0), api.ErrRange},
		{open(most-10, 0, most-2, 0), pen(4, api.CapRound, 0), api.OK},
		{open(most-10, 0, most-1, 0), pen(4, api.CapRound, 0), api.ErrRange},
		{open(most-1, 0, most-10, 0), pen(4, api.CapRound, 0), api.ErrRange},
		{open(most-30, 0, most-1, 0, most-9, 0), pen(4, 0, api.JoinMiter), api.OK}, // back: no corner
		{open(most-30, 0, most-1, 0, most-9, 0), pen(4, 0, api.JoinRound), api.ErrRange},
		{closed(most-30, 0, most-1, 0), pen(4, 0, api.JoinMiter), api.OK},
		{closed(most-30, 0, most-1, 0), pen(4, 0, api.JoinRound), api.ErrRange},
		{closed(most-1, 0, most-30, 0), pen(4, 0, api.JoinRound), api.ErrRange},
		{open(most-200, -200, most-20, 0, most-200, 200), pen(20, 0, 0), api.OK},
		{open(most-200, -200, most-20, 0, most-200, 200), pen(40, 0, api.JoinMiter), api.ErrRange}, // its point alone is beyond
		{open(most-200, -200, most-20, 0, most-200, 200), pen(40, 0, api.JoinBevel), api.OK},
		{open(most-200, -200, most-20, 0, most-200, 200), api.Pen{Width: 40, Join: api.JoinMiter, Limit: 256}, api.OK},
		{closed(most-20, 0, most-200, 200, most-200, -200), pen(40, 0, api.JoinMiter), api.ErrRange}, // at the first point
		{closed(most-200, 200, most-200, -200, most-20, 0), pen(40, 0, api.JoinMiter), api.ErrRange}, // at the last one
		{open(most-200, 200, most-200, -200, most-20, 0), pen(40, 0, api.JoinMiter), api.OK},
		{open(most, most), pen(65536, 2, 2), api.OK}, // nothing is drawn
		{closed(most, -most, most, -most), pen(65536, 2, 2), api.OK},
	} {
		lineModel(t, c.l, c.with)
		if _, e := stroke.Line(c.l, c.with); e != c.e {
			t.Errorf("Line(%v, %v): %v, not %v", c.l, c.with, e, c.e)
		}
	}
}

// smallLines calls f with all lines of up to as many points of a few, open and closed.
func smallLines(many int, f func(api.Line)) {
	few := row(0, 0, 1, 0, 3, 2, -3, 1, 6, 0)
	var on func(pts []api.Point)
	on = func(pts []api.Point) {
		f(api.Line{Pts: slices.Clone(pts)})
		f(api.Line{Pts: slices.Clone(pts), Closed: true})
		if len(pts) == many {
			return
		}
		for _, p := range few {
			on(append(slices.Clone(pts), p))
		}
	}
	on(nil)
}

// P16.3: all lines of up to four of a few points, by all ends and corners.
func TestLineSmall(t *testing.T) {
	all := slices.Concat(pens(2), pens(7))
	smallLines(4, func(l api.Line) {
		for _, with := range all {
			lineModel(t, l, with)
		}
	})
}

// P16.3: any lines and pens, near the page's edges, too, against the chapter's words; a pattern counts for nothing here.
func TestLineDice(t *testing.T) {
	d := dice(43)
	for range 20000 {
		n := []int{5, 40, 3000, most}[d.roll(4)]
		l, with := d.line(d.roll(9), n), d.pen([]int{9, 200, mostWidth}[d.roll(3)])
		if d.roll(3) == 0 {
			with.Dash = []int{3, 1 + d.roll(9)}
		}
		lineModel(t, l, with)
		by := pt(d.size(most-n), d.size(most-n))
		for i, p := range l.Pts {
			l.Pts[i] = add(p, by)
		}
		lineModel(t, l, with)
	}
}

// between answers how far a point is from a line: from the nearest one of its ways.
func between(l api.Line, p api.Point) float64 {
	least := math.Inf(1)
	for i, a := range l.Pts {
		b := l.Pts[(i+1)%len(l.Pts)]
		if i == len(l.Pts)-1 && !l.Closed {
			break
		}
		x, y := float64(b.X-a.X), float64(b.Y-a.Y)
		u, v := float64(p.X-a.X), float64(p.Y-a.Y)
		along := max(0, min(1, (u*x+v*y)/(x*x+y*y)))
		least = min(least, math.Hypot(u-along*x, v-along*y))
	}
	return least
}

// reach answers how far from a line a pen may go.
func reach(with api.Pen) float64 {
	h := float64(with.Width / 2)
	out := h
	if with.Cap == api.CapSquare {
		out = h * math.Sqrt2
	}
	if with.Join == api.JoinMiter {
		out = max(out, h*float64(with.Limit)/256)
	}
	return out
}

// P16.5: each area is above 0, and nothing goes further from a line than its pen may. (Its ways are long here, so that what is left of their lengths is little.)
func TestLineFollows(t *testing.T) {
	d := dice(44)
	for range 4000 {
		l := api.Line{Closed: d.roll(2) == 0}
		at := pt(0, 0)
		for range 2 + d.roll(5) {
			l.Pts = append(l.Pts, at)
			at = add(at, pt(2000+d.roll(60000), d.roll(120001)-60000))
		}
		with := api.Pen{Width: 2000 + d.roll(30000), Cap: d.roll(3), Join: d.roll(3), Limit: 256 + d.roll(800)}
		got, e := stroke.Line(l, with)
		if e != api.OK || len(got) < len(l.Pts)-1 {
			t.Fatalf("Line(%v, %v): %v, %v", l, with, got, e)
		}
		for _, pts := range got {
			if gauge.Twice(pts) <= 0 {
				t.Errorf("Line(%v, %v): the area of %v is %d", l, with, pts, gauge.Twice(pts))
			}
			for _, p := range pts {
				if n := between(l, p); n > 1.02*reach(with)+2 {
					t.Errorf("Line(%v, %v): %v is %v away, and not %v", l, with, p, n, reach(with))
				}
			}
		}
	}
}

// P16.3, P16.5: each area is above 0, be the ways ever so short.
func TestLineAbove(t *testing.T) {
	d := dice(45)
	for range 20000 {
		l, with := d.line(d.roll(7), 12), d.pen(30)
		got, e := stroke.Line(l, with)
		if e != api.OK {
			t.Fatalf("Line(%v, %v): %v", l, with, e)
		}
		for _, pts := range got {
			if twice(pts) <= 0 {
				t.Errorf("Line(%v, %v): the area of %v is %d", l, with, pts, twice(pts))
			}
		}
	}
}

// P16.3: answers share nothing with each other, with what was handed in, or with what is kept.
func TestLineFresh(t *testing.T) {
	for _, with := range pens(8) {
		for _, l := range []api.Line{open(0, 0, 50, 0, 50, 50, 0, 20), closed(0, 0, 50, 0, 50, 50, 0, 20)} {
			got, _ := stroke.Line(l, with)
			for i, pts := range got {
				want, _ := line(l, with)
				if pts = pts[:cap(pts)]; len(pts) < len(want[i]) {
					t.Fatal("an area is short")
				}
				for k := range pts {
					pts[k] = pt(99, 98)
				}
				for j := i + 1; j < len(got); j++ {
					pointsAre(t, "an area beside one that was changed", got[j], want[j])
				}
			}
			lineModel(t, l, with)
		}
		p := stroke.Disc(pt(0, 0), 9)
		p[0], p[4] = pt(1, 1), pt(2, 2)
		pointsAre(t, "Disc", stroke.Disc(pt(0, 0), 9), disc(pt(0, 0), 9))
	}
}

// P16.3: what stands behind a line's points stays as it is.
func TestLineBehind(t *testing.T) {
	all := row(0, 0, 10, 0, 10, 0, 10, 10, 0, 0, 77, 78)
	for _, closed := range []bool{false, true} {
		lineModel(t, api.Line{Pts: all[:5], Closed: closed}, pen(4, 2, 1))
		pointsAre(t, "a line and what is behind it", all, row(0, 0, 10, 0, 10, 0, 10, 10, 0, 0, 77, 78))
	}
}
