package path_test

import (
	"slices"
	"testing"

	"frisket/api"
	"frisket/path"
)

// P12.3: by hand, the chapter's example ahead.
func TestSegsHand(t *testing.T) {
	a, b, c := pt(0, 0), pt(5, 0), pt(5, 5)
	ab, bc, ca, ba := api.Seg{A: a, B: b}, api.Seg{A: b, B: c}, api.Seg{A: c, B: a}, api.Seg{A: b, B: a}
	lines, _ := path.Trace([]api.Step{move(0, 0), line(5, 0), line(5, 5), shut()})
	rounds(t, lines, []api.Seg{ab, bc, ca})
	for _, closed := range []bool{false, true} {
		for _, x := range []struct {
			pts  []api.Point
			want []api.Seg
		}{
			{nil, nil},
			{[]api.Point{}, nil},
			{[]api.Point{a}, nil},
			{[]api.Point{a, a}, nil},
			{[]api.Point{a, a, a}, nil},
			{[]api.Point{a, b}, []api.Seg{ab, ba}},
			{[]api.Point{b, a}, []api.Seg{ba, ab}},
			{[]api.Point{a, b, a}, []api.Seg{ab, ba}},
			{[]api.Point{a, b, c}, []api.Seg{ab, bc, ca}},
			{[]api.Point{a, b, c, a}, []api.Seg{ab, bc, ca}},
			{[]api.Point{a, a, b, b, b, c, c, a, a}, []api.Seg{ab, bc, ca}},
			{[]api.Point{a, b, c, a, b, c}, []api.Seg{ab, bc, ca, ab, bc, ca}},
			{[]api.Point{junk, a}, []api.Seg{{A: junk, B: a}, {A: a, B: junk}}}, // no point is asked whether it may be
		} {
			rounds(t, []api.Line{{Pts: x.pts, Closed: closed}}, x.want)
			rounds(t, []api.Line{{Closed: true}, {Pts: x.pts, Closed: closed}, {}, {Pts: []api.Point{c}}}, x.want)
			rounds(t, []api.Line{{Pts: []api.Point{c, a}}, {Pts: x.pts, Closed: closed}, {Pts: []api.Point{b, c}, Closed: true}},
				slices.Concat([]api.Seg{ca, {A: a, B: c}}, x.want, []api.Seg{bc, {A: c, B: b}}))
		}
	}
	rounds(t, nil, nil)
	rounds(t, []api.Line{}, nil)
}

// P12.3: all rows of up to five of three points, against the chapter's words.
func TestSegsSmall(t *testing.T) {
	few := []api.Point{pt(0, 0), pt(1, 0), pt(1, 1)}
	for i := range 4 * 4 * 4 * 4 * 4 {
		var pts []api.Point
		for n := i; n > 0; n /= 4 {
			if n%4 > 0 {
				pts = append(pts, few[n%4-1])
			}
		}
		was := slices.Clone(pts)
		for _, l := range [][]api.Line{row(false, pts...), row(true, pts...), append(row(true, pts...), row(false, pts...)...)} {
			rounds(t, l, segs(l))
			balanced(t, l)
		}
		if !slices.Equal(pts, was) {
			t.Fatalf("Segs changed %v to %v", was, pts)
		}
	}
}

// balanced holds against each other how often Segs goes out of a point, and comes to it; no way leads nowhere.
func balanced(t *testing.T, l []api.Line) {
	t.Helper()
	often := map[api.Point]int{}
	for _, s := range path.Segs(l) {
		often[s.A]++
		often[s.B]--
		if s.A == s.B {
			t.Errorf("Segs(%v): a way from %v to itself", l, s.A)
		}
	}
	for p, n := range often {
		if n != 0 {
			t.Errorf("Segs(%v): goes out of %v %d times more than it comes to it", l, p, n)
		}
	}
}

// P12.3, P12.4: any paths' lines, and any lines.
func TestSegsDice(t *testing.T) {
	d := dice(81)
	for range 20000 {
		lines, e := path.Trace(d.path(d.roll(15), []int{1, 2, 60, 1000, most}[d.roll(5)]))
		if e != api.OK {
			t.Fatal(e)
		}
		rounds(t, lines, segs(lines))
		balanced(t, lines)
		any := make([]api.Line, d.roll(4))
		for i := range any {
			for range d.roll(8) {
				any[i].Pts = append(any[i].Pts, d.point(1+d.roll(3)))
			}
			any[i].Closed = d.roll(2) == 0
		}
		rounds(t, any, segs(any))
		balanced(t, any)
	}
}

// P12.3: lines of any length go through all of it.
func TestSegsLong(t *testing.T) {
	pts := make([]api.Point, 100000)
	for i := range pts {
		pts[i] = pt(i, -i)
	}
	got := path.Segs(row(false, pts...))
	if len(got) != len(pts) || got[len(got)-1] != (api.Seg{A: pt(99999, -99999), B: pt(0, 0)}) || got[7] != (api.Seg{A: pt(7, -7), B: pt(8, -8)}) {
		t.Error(len(got))
	}
}

// P12.1, P12.3: what Trace leaves out of a path changes no way, where its lines are closed.
func TestSegsOfTrace(t *testing.T) {
	for _, l := range [][]api.Step{
		{move(0, 0), line(5, 0), line(5, 5), shut()},
		{move(0, 0), line(5, 0), line(5, 5)},
		{move(0, 0), line(5, 0), line(5, 5), line(0, 0)},
		{move(0, 0), line(0, 0), line(5, 0), line(5, 5), line(5, 5), line(0, 0), shut()},
		{move(8, 8), move(0, 0), line(5, 0), line(5, 5), shut(), move(9, 9), shut()},
	} {
		lines, e := path.Trace(l)
		if e != api.OK {
			t.Fatal(e)
		}
		rounds(t, lines, []api.Seg{{A: pt(0, 0), B: pt(5, 0)}, {A: pt(5, 0), B: pt(5, 5)}, {A: pt(5, 5), B: pt(0, 0)}})
	}
}
