package turn_test

import (
	"slices"
	"testing"

	"frisket/api"
	"frisket/frac"
	"frisket/spot"
)

var square = loop(pt(0, 0), pt(4, 0), pt(4, 4), pt(0, 4)) // against the clock

// P19.1: by hand: ways that close.
func TestTurnsByHand(t *testing.T) {
	diamond := loop(pt(0, -3), pt(3, 0), pt(0, 3), pt(-3, 0))
	eight := loop(pt(0, 0), pt(4, 4), pt(4, 0), pt(0, 4)) // against the clock on the right, with it on the left
	around := append(slices.Clone(square), loop(pt(1, 1), pt(3, 1), pt(3, 3), pt(1, 3))...)
	hole := append(slices.Clone(square), loop(pt(1, 1), pt(1, 3), pt(3, 3), pt(3, 1))...)
	for _, c := range []struct {
		l    []api.Seg
		p    api.Spot
		want int
		ok   bool
	}{
		{nil, at(1, 1, 1), 0, true},
		{[]api.Seg{}, api.Spot{}, 0, true},
		{square, at(2, 2, 1), 1, true}, // the chapter's example
		{square, at(5, 2, 1), 0, true},
		{square, at(-1, 2, 1), 0, true},
		{square, at(2, 5, 1), 0, true},
		{square, at(2, -1, 1), 0, true},
		{square, at(-1, 0, 1), 0, true},
		{square, at(-1, 4, 1), 0, true},
		{square, at(9, 0, 1), 0, true},
		{square, at(9, 4, 1), 0, true},
		{square, at(1, 1, 1000), 1, true},
		{square, at(-1, 1, 1000), 0, true},
		{square, at(3999, 3999, 1000), 1, true},
		{square, at(4001, 3999, 1000), 0, true},
		{square, at(0, 0, 1), 0, false},
		{square, at(4, 4, 1), 0, false},
		{square, at(2, 0, 1), 0, false},
		{square, at(2, 4, 1), 0, false},
		{square, at(0, 1, 2), 0, false},
		{square, at(8, 1, 2), 0, false},
		{each(square, back), at(2, 2, 1), -1, true},
		{each(square, back), at(5, 2, 1), 0, true},
		{append(slices.Clone(square), square...), at(2, 2, 1), 2, true},
		{append(each(square, back), each(square, back)...), at(2, 2, 1), -2, true},
		{append(each(square, back), square...), at(2, 2, 1), 0, true},
		{diamond, at(0, 0, 1), 1, true}, // at the height of two corners
		{diamond, at(-4, 0, 1), 0, true},
		{diamond, at(4, 0, 1), 0, true},
		{diamond, at(-1, 3, 1), 0, true},
		{diamond, at(-1, -3, 1), 0, true},
		{diamond, at(3, 3, 2), 0, false},
		{diamond, at(-3, 0, 1), 0, false},
		{each(diamond, back), at(0, 0, 1), -1, true},
		{each(diamond, back), at(-4, 0, 1), 0, true},
		{eight, at(1, 2, 1), 1, true},
		{eight, at(3, 2, 1), -1, true},
		{eight, at(2, 2, 1), 0, false},
		{eight, at(2, 3, 1), 0, true},
		{eight, at(2, 1, 1), 0, true},
		{around, at(2, 2, 1), 2, true},
		{around, at(1, 1, 2), 1, true},
		{around, at(1, 1, 1), 0, false},
		{hole, at(2, 2, 1), 0, true},
		{hole, at(1, 1, 2), 1, true},
		{hole, at(1, 2, 1), 0, false},
		{loop(pt(3, 3)), at(3, 3, 1), 0, false},
		{loop(pt(3, 3)), at(2, 3, 1), 0, true},
		{loop(pt(0, 0), pt(4, 0)), at(2, 0, 1), 0, false},
		{loop(pt(0, 0), pt(4, 4)), at(1, 2, 1), 0, true},
	} {
		turnsAre(t, c.l, c.p, c.want, c.ok)
		reversed := slices.Clone(c.l)
		slices.Reverse(reversed)
		turnsAre(t, reversed, c.p, c.want, c.ok)
		turnsAre(t, each(c.l, back), c.p, -c.want, c.ok)
	}
}

// P19.1: by hand: one way alone counts where one goes past it: at the height where it begins, or ends below, and not where it ends above.
func TestTurnsOfOneByHand(t *testing.T) {
	up := way(2, 1, 4, 5)
	for _, c := range []struct {
		p    api.Spot
		want int
		ok   bool
	}{
		{at(2, 3, 1), 1, true},
		{at(4, 3, 1), 0, true},
		{at(3, 3, 1), 0, false},
		{at(-9, 3, 1), 1, true},
		{at(29999, 30000, 10000), 1, true}, // beside its middle, by next to nothing
		{at(30001, 30000, 10000), 0, true},
		{at(1, 1, 1), 1, true},
		{at(2, 1, 1), 0, false},
		{at(3, 1, 1), 0, true},
		{at(3, 5, 1), 0, true},
		{at(4, 5, 1), 0, false},
		{at(5, 5, 1), 0, true},
		{at(1, 0, 1), 0, true},
		{at(1, 6, 1), 0, true},
		{at(0, 9, 10), 0, true},
		{at(0, 11, 10), 1, true},
		{at(0, 49, 10), 1, true},
		{at(0, 51, 10), 0, true},
		{at(5, 7, 1), 0, true}, // on its line
		{at(1, -1, 1), 0, true},
	} {
		turnsAre(t, []api.Seg{up}, c.p, c.want, c.ok)
		turnsAre(t, []api.Seg{back(up)}, c.p, -c.want, c.ok)
		turnsAre(t, []api.Seg{up, up, up}, c.p, 3*c.want, c.ok)
		turnsAre(t, []api.Seg{back(up), up, way(7, 7, 7, 7)}, c.p, 0, c.ok)
	}
	for _, y := range []int{-1, 0, 1} { // level ways are only there to be on
		level := []api.Seg{way(2, 0, 6, 0)}
		for x := range 9 {
			turnsAre(t, level, at(x, y, 1), 0, y != 0 || x < 2 || x > 6)
			turnsAre(t, each(level, back), at(x, y, 1), 0, y != 0 || x < 2 || x > 6)
		}
	}
}

// P19.1: each way, and each two, of small grids, from all spots around.
func TestTurnsOfSmall(t *testing.T) {
	for _, g := range [][3]int{{3, 3, 2}, {2, 4, 2}, {4, 2, 2}, {2, 2, 5}} {
		all := grid(g[0], g[1])
		for _, p := range spots(g[0], g[1], g[2]) {
			for i, s := range all {
				turnsHold(t, []api.Seg{s}, p)
				turnsHold(t, []api.Seg{s, all[(7*i+3)%len(all)], all[(11*i+5)%len(all)]}, p)
			}
		}
	}
}

// P19.1: ways of all sizes to the limits, and spots that have to do with them.
func TestTurnsOfAny(t *testing.T) {
	d := dice(1)
	for i := range 2000 {
		n := []int{4, 300, 70000, most}[i%4]
		l := d.ways(d.roll(12), n)
		if i%3 == 0 {
			l = d.loops(1+d.roll(3), n)
		}
		for range 4 {
			turnsHold(t, l, d.spot(l, n))
		}
	}
}

// P19.1: spots on the ways themselves, and beside them by less than a step.
func TestTurnsOnWays(t *testing.T) {
	d := dice(2)
	for i := range 1500 {
		n := []int{9, 300, 70000, most}[i%4]
		s := api.Seg{A: d.point(n), B: d.point(n)}
		on := spot.Toward(spot.At(s.A), spot.At(s.B), of(d.roll(10), 9))
		turnsAre(t, []api.Seg{s}, on, 0, false)
		turnsAre(t, []api.Seg{way(1, 2, 3, 4), back(s), way(9, 9, 9, -9)}, on, 0, false)
		for _, by := range []api.Spot{at(1, 0, 1<<31), at(-1, 0, 1<<31), at(0, 1, 1<<31), at(0, -1, 1<<31)} {
			off := spot.Toward(on, api.Spot{X: frac.Add(on.X, by.X), Y: frac.Add(on.Y, by.Y)}, of(1, 1<<20))
			turnsHold(t, []api.Seg{s}, off)
		}
	}
}

// P19.1: spots in all forms.
func TestTurnsOfForms(t *testing.T) {
	for _, p := range []api.Point{pt(0, 0), pt(0, 2), pt(2, 0), pt(1, 3), pt(-1, 0), pt(0, -2), pt(4, 4), pt(5, 0)} {
		for _, q := range forms(p) {
			for _, l := range [][]api.Seg{square, loop(pt(-3, -3), pt(3, -3), pt(3, 3), pt(-3, 3)), {way(0, -1, 0, 1)}, {way(1, 1, 1, -1)}, {way(0, 0, 0, 0)}} {
				turnsHold(t, l, q)
			}
		}
	}
}

// P19.1: spots beyond the limits, and at them.
func TestTurnsOfHuge(t *testing.T) {
	page := loop(pt(-most, -most), pt(most, -most), pt(most, most), pt(-most, most))
	tip := loop(pt(-most, most), pt(2, -most), pt(most, 2), pt(0, 0))
	for _, p := range hugeSpots() {
		for _, l := range [][]api.Seg{page, each(page, back), tip, page[:2], page[1:3], page[3:], tip[:1], tip[1:3], nil} {
			turnsHold(t, l, p)
		}
	}
}

// P19.1: ways that may not be count for nothing, nor is one on them.
func TestTurnsOfWrong(t *testing.T) {
	for _, w := range wrongWays() {
		for _, p := range []api.Spot{at(0, 0, 1), at(2, 2, 1), at(1, 1, 1), at(-1, 3, 1), at(-5, 1, 1), at(3, 1, 2), spot.At(w.A), spot.At(w.B)} {
			turnsAre(t, []api.Seg{w}, p, 0, true)
			turnsAre(t, []api.Seg{w, back(w), w}, p, 0, true)
		}
		for i := range len(square) + 1 {
			l := slices.Insert(slices.Clone(square), i, w)
			turnsAre(t, l, at(2, 2, 1), 1, true)
			turnsAre(t, l, at(1, 1, 3), 1, true)
			turnsAre(t, l, at(-1, 3, 1), 0, true)
			turnsAre(t, l, at(4, 2, 1), 0, false)
		}
	}
}

// quarter answers which quarter around a point another one is in: 0 to the right and above, then on against the clock.
func quarter(p, of pair) int {
	x, y := p.x.Cmp(of.x), p.y.Cmp(of.y)
	switch {
	case x > 0 && y >= 0:
		return 0
	case x <= 0 && y > 0:
		return 1
	case x < 0:
		return 2
	}
	return 3
}

// round answers how often ways that close go around a point, by the quarters that they go through.
func round(l []api.Seg, p pair) int {
	out := 0
	for _, s := range l {
		a, b := point(s.A), point(s.B)
		switch (quarter(b, p) - quarter(a, p) + 4) % 4 {
		case 1:
			out++
		case 2:
			out += 2 * side(a, b, p)
		case 3:
			out--
		}
	}
	return out / 4
}

// P19.1: ways that close go around a spot as often as they go through all quarters around it.
func TestTurnsAreTurns(t *testing.T) {
	d := dice(3)
	held := 0
	for i := range 3000 {
		n := []int{3, 6, 70000, most}[i%4]
		l := d.loops(1+d.roll(4), n)
		p := d.spot(l, n)
		if _, ok := turns(l, worths(p)); ok {
			turnsAre(t, l, p, round(l, worths(p)), true)
			held++
		}
	}
	if held < 1000 {
		t.Errorf("%d spots alone are on no way", held)
	}
}

// P19.1: as many ways as a scene has, and many times one.
func TestTurnsOfMany(t *testing.T) {
	var l []api.Seg
	for i := range 3000 {
		l = append(l, loop(pt(-i-1, -i-1), pt(i+1, -i-1), pt(i+1, i+1), pt(-i-1, i+1))...)
	}
	for _, i := range []int{0, 1, 7, 2998, 2999, 3000, 4000} {
		turnsAre(t, l, at(2*i+1, 0, 2), max(0, 3000-i), true)
		turnsAre(t, l, at(0, -2*i-1, 2), max(0, 3000-i), true)
		turnsAre(t, l, at(i+1, i, 1), 0, i >= 3000)
	}
	turnsAre(t, slices.Repeat([]api.Seg{way(5, -5, 5, 5)}, 100000), at(0, 0, 1), 100000, true)
	turnsAre(t, slices.Repeat([]api.Seg{way(5, 5, 5, -5)}, 100000), at(0, 0, 1), -100000, true)
}
