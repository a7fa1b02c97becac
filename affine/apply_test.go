package affine_test

import (
	"testing"

	"frisket/affine"
	"frisket/api"
)

// P10.2: the chapter's example, and others by hand.
func TestApplyHand(t *testing.T) {
	applies(t, api.Map{A: 512, D: 512, E: 5}, api.Point{X: 3, Y: 4}, api.Point{X: 11, Y: 8}, api.OK)
	applies(t, api.Map{A: 512, D: 512, F: 5}, api.Point{X: 3, Y: 4}, api.Point{X: 6, Y: 13}, api.OK)
	applies(t, api.Map{}, api.Point{X: 3, Y: 4}, api.Point{}, api.OK)
	applies(t, api.Map{E: 7, F: -8}, api.Point{X: most, Y: -most}, api.Point{X: 7, Y: -8}, api.OK)
	applies(t, api.Map{B: 256, C: -256}, api.Point{X: 3, Y: 4}, api.Point{X: -4, Y: 3}, api.OK)        // a quarter turn against the clock
	applies(t, api.Map{B: 256, C: 256}, api.Point{X: 3, Y: 4}, api.Point{X: 4, Y: 3}, api.OK)          // turned over
	applies(t, api.Map{A: 256, B: 512, D: 256}, api.Point{X: 3, Y: 4}, api.Point{X: 3, Y: 10}, api.OK) // Y leans with x
	applies(t, api.Map{A: 256, C: 512, D: 256}, api.Point{X: 3, Y: 4}, api.Point{X: 11, Y: 4}, api.OK) // X leans with y
	applies(t, api.Map{A: 256, B: 768, C: 1280, D: 1792, E: 11, F: 13}, api.Point{X: 100, Y: 1000}, api.Point{X: 5111, Y: 7313}, api.OK)
}

// P10.2: each number of a map alone, to where it goes.
func TestApplyOne(t *testing.T) {
	p := api.Point{X: 3, Y: 500}
	for i, want := range []api.Point{{X: 6}, {Y: 6}, {X: 1000}, {Y: 1000}, {X: 512}, {Y: 512}} {
		m := [6]int{}
		m[i] = 512
		applies(t, mapOf(m), p, want, api.OK)
	}
}

// P10.2: halves go up, on both sides of 0; the others to what is nearer.
func TestApplyNearest(t *testing.T) {
	for n, want := range map[int]int{
		0: 0, 1: 0, 127: 0, 128: 1, 129: 1, 255: 1, 256: 1, 257: 1, 383: 1, 384: 2, 385: 2, 640: 3, 896: 4, scale - 129: 127, scale - 128: 128,
		-1: 0, -127: 0, -128: 0, -129: -1, -255: -1, -256: -1, -257: -1, -383: -1, -384: -1, -385: -2, -640: -2, -641: -3, 127 - scale: -128, 128 - scale: -127, 129 - scale: -127,
	} {
		one := api.Point{X: 1, Y: 1}
		applies(t, api.Map{A: n}, one, api.Point{X: want}, api.OK)
		applies(t, api.Map{B: n}, one, api.Point{Y: want}, api.OK)
		applies(t, api.Map{C: n}, one, api.Point{X: want}, api.OK)
		applies(t, api.Map{D: n}, one, api.Point{Y: want}, api.OK)
		applies(t, api.Map{A: n, D: n, E: 5, F: -5}, one, api.Point{X: want + 5, Y: want - 5}, api.OK)
		applies(t, api.Map{A: n, B: n, E: most - 200, F: 200 - most}, one, api.Point{X: want + most - 200, Y: want + 200 - most}, api.OK)
	}
}

// P10.2: each number of 256ths is as near as it can be: by what is left, and not by how it is reckoned.
func TestApplyNear(t *testing.T) {
	for n := -3000; n <= 3000; n++ {
		got, e := affine.Apply(api.Map{A: n, C: 1, B: 1, D: n - 1}, api.Point{X: 1, Y: 1})
		if left := 256*got.X - n - 1; e != api.OK || left <= -128 || left > 128 {
			t.Errorf("%d by 256: %d, %v", n+1, got.X, e)
		}
		if left := 256*got.Y - n; e != api.OK || left <= -128 || left > 128 {
			t.Errorf("%d by 256: %d, %v", n, got.Y, e)
		}
	}
}

// P10.2: both products are added up ahead of being rounded.
func TestApplyOnce(t *testing.T) {
	one := api.Point{X: 1, Y: 1}
	applies(t, api.Map{A: 128, C: 128, B: 64, D: 64}, one, api.Point{X: 1, Y: 1}, api.OK)
	applies(t, api.Map{A: 127, C: 127, B: 200, D: 200}, one, api.Point{X: 1, Y: 2}, api.OK)
	applies(t, api.Map{A: 100, C: 27, B: 100, D: 28}, one, api.Point{X: 0, Y: 1}, api.OK)
	applies(t, api.Map{A: -64, C: -64, B: -64, D: -65}, one, api.Point{X: 0, Y: -1}, api.OK)
	applies(t, api.Map{A: 128, C: -128, B: -128, D: 128}, one, api.Point{}, api.OK)
	applies(t, api.Map{A: 384, C: -256, B: -384, D: 256}, one, api.Point{X: 1, Y: 0}, api.OK)
}

// P10.2: what it comes to, at its edges, by each of a map's numbers.
func TestApplyEdge(t *testing.T) {
	for _, c := range []struct {
		m    api.Map
		p    api.Point
		want int
	}{
		{api.Map{A: 256}, api.Point{X: most}, most},
		{api.Map{A: 256, E: 1}, api.Point{X: most - 1}, most},
		{api.Map{A: 256, E: 1}, api.Point{X: most}, most + 1},
		{api.Map{A: 256, E: -1}, api.Point{X: -most}, -most - 1},
		{api.Map{A: 256, E: -1}, api.Point{X: 1 - most}, -most},
		{api.Map{E: most}, api.Point{X: most}, most},
		{api.Map{A: 127, E: most}, api.Point{X: 1}, most},
		{api.Map{A: 128, E: most}, api.Point{X: 1}, most + 1},
		{api.Map{A: -128, E: -most}, api.Point{X: 1}, -most},
		{api.Map{A: -129, E: -most}, api.Point{X: 1}, -most - 1},
		{api.Map{A: 256, C: 127}, api.Point{X: most, Y: 1}, most},
		{api.Map{A: 256, C: 128}, api.Point{X: most, Y: 1}, most + 1},
		{api.Map{A: 256, C: -128}, api.Point{X: -most, Y: 1}, -most},
		{api.Map{A: 256, C: -129}, api.Point{X: -most, Y: 1}, -most - 1},
		{api.Map{A: 257}, api.Point{X: most}, most + 32768},
		{api.Map{A: -257}, api.Point{X: most}, -most - 32768},
		{api.Map{A: 512, E: -most}, api.Point{X: most}, most}, // beyond its limits ahead of the shift alone
		{api.Map{A: 512, E: 1 - most}, api.Point{X: most}, most + 1},
		{api.Map{A: -512, E: most}, api.Point{X: most}, -most},
		{api.Map{A: -512, E: most - 1}, api.Point{X: most}, -most - 1},
		{api.Map{A: scale, C: scale}, api.Point{X: most, Y: most}, most * 256},
		{api.Map{A: scale, C: -scale}, api.Point{X: most, Y: most}, 0},
		{api.Map{A: scale, C: -scale, E: most}, api.Point{X: -most, Y: -most}, most},
		{api.Map{A: scale, C: -scale, E: most}, api.Point{X: 1, Y: 0}, most + 128},
	} {
		want, e := api.Point{X: c.want}, api.OK
		if c.want < -most || c.want > most {
			want, e = api.Point{}, api.ErrRange
		}
		applies(t, c.m, c.p, want, e)
		applies(t, api.Map{B: c.m.A, D: c.m.C, F: c.m.E}, c.p, api.Point{Y: want.X}, e)                                          // the same with Y
		applies(t, api.Map{C: c.m.A, A: c.m.C, E: c.m.E}, api.Point{X: c.p.Y, Y: c.p.X}, want, e)                                // X by the other product
		applies(t, api.Map{D: c.m.A, B: c.m.C, F: c.m.E}, api.Point{X: c.p.Y, Y: c.p.X}, api.Point{Y: want.X}, e)                // Y by the other product
		applies(t, api.Map{A: c.m.A, C: c.m.C, E: c.m.E, B: c.m.A, D: c.m.C, F: c.m.E}, c.p, api.Point{X: want.X, Y: want.X}, e) // both
	}
}

// P10.2: maps and points that may not be; of both, the map is told.
func TestApplyWrong(t *testing.T) {
	same := affine.Same()
	for _, m := range wrongMaps() {
		applies(t, m, api.Point{}, api.Point{}, api.ErrArg)
		applies(t, m, api.Point{X: 1, Y: -1}, api.Point{}, api.ErrArg)
		applies(t, m, api.Point{X: most, Y: most}, api.Point{}, api.ErrArg)
		for _, p := range wrongPoints() {
			applies(t, m, p, api.Point{}, api.ErrArg)
		}
	}
	for _, p := range wrongPoints() {
		applies(t, same, p, api.Point{}, api.ErrRange)
		applies(t, api.Map{}, p, api.Point{}, api.ErrRange)                                   // though it comes to 0 0
		applies(t, api.Map{A: 1, D: 1}, p, api.Point{}, api.ErrRange)                         // though it may come to what may be
		applies(t, api.Map{A: 256, D: 256, E: -most, F: -most}, p, api.Point{}, api.ErrRange) // though it may be led back
	}
}

// P10.2: any maps and points, against the chapter's words.
func TestApplyDice(t *testing.T) {
	d := dice(11)
	came := 0
	for range 200000 {
		m, p := d.mild(), d.point(most)
		switch d.roll(3) {
		case 0:
			m = d.plane()
		case 1:
			m, p = d.plane(), d.point(1<<16)
		}
		want, e := apply(m, p)
		if e == api.OK {
			came++
		}
		if got, gotE := affine.Apply(m, p); got != want || gotE != e {
			t.Fatalf("Apply(%v, %v): %v, %v, not %v, %v", m, p, got, gotE, want, e)
		}
	}
	if came < 20000 || came > 180000 {
		t.Errorf("%d of the points come to such as may be", came)
	}
}

// P10.4: the map that changes nothing leaves all points.
func TestSameLeaves(t *testing.T) {
	for _, x := range ends {
		for _, y := range ends {
			p := api.Point{X: x, Y: y}
			if fits(p) {
				applies(t, affine.Same(), p, p, api.OK)
			}
		}
	}
	d := dice(12)
	for range 20000 {
		p := d.point(most)
		applies(t, affine.Same(), p, p, api.OK)
		goes(t, []api.Map{affine.Same(), affine.Same(), affine.Same()}, p, p, api.OK)
	}
}
