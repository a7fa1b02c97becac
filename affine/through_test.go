package affine_test

import (
	"slices"
	"testing"

	"frisket/affine"
	"frisket/api"
)

var (
	twice  = api.Map{A: 512, D: 512}
	half   = api.Map{A: 128, D: 128}
	aside  = api.Map{A: 256, D: 256, E: 10, F: -20}
	turned = api.Map{B: 256, C: -256}
	far    = api.Map{A: 256, D: 256, E: most, F: most}
	back   = api.Map{A: 256, D: 256, E: -most, F: -most}
	wrong  = api.Map{A: scale + 1, D: 256}
)

// P10.3: the last one first.
func TestThroughOrder(t *testing.T) {
	p := api.Point{X: 3, Y: 4}
	goes(t, []api.Map{twice}, p, api.Point{X: 6, Y: 8}, api.OK)
	goes(t, []api.Map{twice, aside}, p, api.Point{X: 26, Y: -32}, api.OK)
	goes(t, []api.Map{aside, twice}, p, api.Point{X: 16, Y: -12}, api.OK)
	goes(t, []api.Map{aside, turned, twice}, p, api.Point{X: 2, Y: -14}, api.OK)
	goes(t, []api.Map{twice, turned, aside}, p, api.Point{X: 32, Y: 26}, api.OK)
	goes(t, []api.Map{turned, twice, aside}, p, api.Point{X: 32, Y: 26}, api.OK)
	goes(t, []api.Map{turned, aside, twice}, p, api.Point{X: 12, Y: 16}, api.OK)
	goes(t, []api.Map{twice, aside, turned}, p, api.Point{X: 12, Y: -34}, api.OK)
	goes(t, []api.Map{aside, twice, turned}, p, api.Point{X: 2, Y: -14}, api.OK)
}

// P10.3: each map's point is to the nearest whole number, ahead of the next map.
func TestThroughSteps(t *testing.T) {
	p := api.Point{X: 3, Y: -3}
	goes(t, []api.Map{twice, half}, p, api.Point{X: 4, Y: -2}, api.OK)
	goes(t, []api.Map{half, twice}, p, p, api.OK)
	goes(t, []api.Map{half, half}, p, api.Point{X: 1, Y: 0}, api.OK)
	goes(t, []api.Map{half, half}, api.Point{X: 1, Y: -1}, api.Point{X: 1}, api.OK)
	goes(t, []api.Map{twice, {}}, p, api.Point{}, api.OK)
}

// P10.3: a row of no maps leaves what it is handed, as no map is there to have an error.
func TestThroughNone(t *testing.T) {
	for _, p := range append(wrongPoints(), api.Point{}, api.Point{X: 3, Y: 4}, api.Point{X: most, Y: -most}) {
		goes(t, nil, p, p, api.OK)
		goes(t, []api.Map{}, p, p, api.OK)
	}
}

// P10.3: the first error that comes, counted from the last map.
func TestThroughWrong(t *testing.T) {
	p, none := api.Point{X: 1, Y: 1}, api.Point{}
	beyond := api.Point{X: most + 1}
	goes(t, []api.Map{wrong}, p, none, api.ErrArg)
	goes(t, []api.Map{wrong, twice}, p, none, api.ErrArg)
	goes(t, []api.Map{twice, wrong}, p, none, api.ErrArg)
	goes(t, []api.Map{twice, wrong, aside}, p, none, api.ErrArg)
	goes(t, []api.Map{wrong, far}, p, none, api.ErrRange)
	goes(t, []api.Map{far, wrong}, p, none, api.ErrArg)
	goes(t, []api.Map{wrong, twice, far}, p, none, api.ErrRange)
	goes(t, []api.Map{wrong}, beyond, none, api.ErrArg)
	goes(t, []api.Map{wrong, twice}, beyond, none, api.ErrRange)
	goes(t, []api.Map{twice, wrong}, beyond, none, api.ErrArg)
	goes(t, []api.Map{{}}, beyond, none, api.ErrRange)
	goes(t, []api.Map{wrong, {}}, beyond, none, api.ErrRange)
	for _, m := range wrongMaps() {
		for at := range 4 {
			goes(t, slices.Insert([]api.Map{twice, aside, turned}, at, m), p, none, api.ErrArg)
		}
	}
	for _, p := range wrongPoints() {
		goes(t, []api.Map{twice, aside, turned}, p, none, api.ErrRange)
	}
}

// P10.3: a point that leaves the limits on its way is told, though the next map would lead it back.
func TestThroughFar(t *testing.T) {
	p := api.Point{X: 1, Y: 1}
	goes(t, []api.Map{back, far}, p, api.Point{}, api.ErrRange)
	goes(t, []api.Map{far, back}, p, p, api.OK)
	goes(t, []api.Map{back, far}, api.Point{}, api.Point{}, api.OK)
	goes(t, []api.Map{half, twice}, api.Point{Y: 4194304}, api.Point{}, api.ErrRange)
	goes(t, []api.Map{half, twice}, api.Point{Y: 4194303}, api.Point{Y: 4194303}, api.OK)
	goes(t, []api.Map{{}, twice}, api.Point{X: most}, api.Point{}, api.ErrRange)
}

// P10.3: any rows, against the chapter's words.
func TestThroughDice(t *testing.T) {
	d := dice(21)
	came := 0
	for range 30000 {
		l := make([]api.Map, d.roll(6))
		for i := range l {
			l[i] = d.mild()
			if d.roll(12) == 0 {
				l[i] = d.plane()
			}
			if d.roll(24) == 0 {
				l[i] = wrongMaps()[d.roll(48)]
			}
		}
		pts := make([]api.Point, d.roll(5))
		for i := range pts {
			pts[i] = d.point([]int{100, 1 << 16, most, most + 1}[d.roll(4)])
		}
		for _, p := range pts {
			want, e := through(l, p)
			if e == api.OK {
				came++
			}
			goes(t, l, p, want, e)
		}
		alls(t, l, pts)
		if t.Failed() {
			return
		}
	}
	if came < 20000 {
		t.Errorf("%d points alone come through", came)
	}
}

// P10.3: a row of a great many maps.
func TestThroughLong(t *testing.T) {
	l := make([]api.Map, 100000)
	for i := range l {
		l[i] = api.Map{A: 256, D: 256, E: 1, F: -2}
	}
	goes(t, l, api.Point{X: 7, Y: 8}, api.Point{X: 100007, Y: -199992}, api.OK)
	l[0] = wrong
	goes(t, l, api.Point{X: 7, Y: 8}, api.Point{}, api.ErrArg)
}

// alls holds what All answers against the chapter's words, and what it was handed against what that was.
func alls(t *testing.T, l []api.Map, pts []api.Point) {
	t.Helper()
	maps, was := slices.Clone(l), slices.Clone(pts)
	got, e := affine.All(l, pts)
	want, wantE := all(maps, was)
	if !slices.Equal(got, want) || e != wantE {
		t.Errorf("All(%v, %v): %v, %v, not %v, %v", maps, was, got, e, want, wantE)
	}
	if !slices.Equal(l, maps) || !slices.Equal(pts, was) {
		t.Errorf("All(%v, %v) changed what it was handed", maps, was)
	}
}

// P10.3
func TestAll(t *testing.T) {
	pts := []api.Point{{X: 3, Y: 4}, {}, {X: 3, Y: 4}, {X: -1, Y: -2}}
	got, e := affine.All([]api.Map{twice, aside}, pts)
	if want := []api.Point{{X: 26, Y: -32}, {X: 20, Y: -40}, {X: 26, Y: -32}, {X: 18, Y: -44}}; !slices.Equal(got, want) || e != api.OK {
		t.Errorf("All of %v: %v, %v", pts, got, e)
	}
	alls(t, nil, pts)
	alls(t, []api.Map{turned}, pts)
	alls(t, []api.Map{half, turned, twice}, pts)
	alls(t, nil, wrongPoints())
}

// P10.3: no points have no error, whatever the maps are.
func TestAllNone(t *testing.T) {
	for _, l := range [][]api.Map{nil, {}, {twice}, {wrong}, {wrong, wrong}} {
		for _, pts := range [][]api.Point{nil, {}} {
			if got, e := affine.All(l, pts); len(got) != 0 || e != api.OK {
				t.Errorf("All(%v) of no points: %v, %v", l, got, e)
			}
		}
	}
}

// P10.3: the first point's error, and nothing beside it.
func TestAllWrong(t *testing.T) {
	near, beyond := api.Point{X: 1, Y: 1}, api.Point{Y: -most - 1}
	for _, c := range []struct {
		l    []api.Map
		pts  []api.Point
		want api.Errno
	}{
		{[]api.Map{wrong}, []api.Point{near}, api.ErrArg},
		{[]api.Map{wrong}, []api.Point{beyond, near}, api.ErrArg},
		{[]api.Map{twice}, []api.Point{beyond, near}, api.ErrRange},
		{[]api.Map{twice}, []api.Point{near, beyond}, api.ErrRange},
		{[]api.Map{twice}, []api.Point{near, near, near, {X: most}, near}, api.ErrRange},
		{[]api.Map{wrong, twice}, []api.Point{near, beyond}, api.ErrArg},
		{[]api.Map{wrong, twice}, []api.Point{beyond, near}, api.ErrRange},
		{[]api.Map{wrong, far}, []api.Point{{}, near}, api.ErrArg},
		{[]api.Map{wrong, far}, []api.Point{near, {}}, api.ErrRange},
		{[]api.Map{far, wrong}, []api.Point{near, {}}, api.ErrArg},
	} {
		if got, e := affine.All(c.l, c.pts); len(got) != 0 || e != c.want {
			t.Errorf("All(%v, %v): %v, %v, not %v", c.l, c.pts, got, e, c.want)
		}
	}
}

// R3: what is answered shares nothing with what was handed in, and has what was handed in left as it was.
func TestAllNew(t *testing.T) {
	for _, l := range [][]api.Map{nil, {}, {affine.Same()}, {twice, aside}} {
		pts := []api.Point{{X: 1, Y: 2}, {X: 3, Y: 4}, {X: 5, Y: 6}}
		was := slices.Clone(pts)
		got, e := affine.All(l, pts[:2])
		if e != api.OK || len(got) != 2 {
			t.Fatal(got, e)
		}
		for i := range got {
			got[i] = api.Point{X: 99, Y: 99}
		}
		_ = append(got, api.Point{X: 98})
		if !slices.Equal(pts, was) {
			t.Errorf("All by %v shares its points: %v", l, pts)
		}
	}
}

// orders answers a row in all orders.
func orders(l []api.Map) [][]api.Map {
	if len(l) == 0 {
		return [][]api.Map{nil}
	}
	var out [][]api.Map
	for i, m := range l {
		for _, o := range orders(slices.Delete(slices.Clone(l), i, i+1)) {
			out = append(out, append(o, m))
		}
	}
	return out
}

// P10.4: maps that only shift may be taken in any order.
func TestShifts(t *testing.T) {
	d := dice(31)
	for range 300 {
		l := make([]api.Map, 1+d.roll(5))
		p := d.point(most / 8)
		want := p
		for i := range l {
			l[i] = api.Map{A: 256, D: 256, E: d.size(most / 8), F: d.size(most / 8)}
			want.X += l[i].E
			want.Y += l[i].F
		}
		for _, o := range orders(l) {
			goes(t, o, p, want, api.OK)
		}
	}
}
