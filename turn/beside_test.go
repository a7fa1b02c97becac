package turn_test

import (
	"slices"
	"testing"

	"frisket/api"
	"frisket/split"
	"frisket/spot"
	"frisket/turn"
)

// P19.2: by hand: edges of ways that close, edges within them, and edges that lie elsewhere.
func TestBesideByHand(t *testing.T) {
	around := append(slices.Clone(square), loop(pt(1, 1), pt(3, 1), pt(3, 3), pt(1, 3))...)
	slope := loop(pt(0, 0), pt(6, 2), pt(0, 4))
	for _, c := range []struct {
		l           []api.Seg
		e           api.Edge
		left, right int
		ok          bool
	}{
		{nil, edge(0, 0, 4, 4, 1), 0, 0, true},
		{[]api.Seg{}, edge(0, 0, 4, 0, 1), 0, 0, true},
		{nil, edge(1, 2, 1, 2, 1), 0, 0, false},
		{square, edge(0, 0, 4, 0, 1), 1, 0, true},
		{square, edge(4, 0, 4, 4, 1), 1, 0, true},
		{square, edge(4, 4, 0, 4, 1), 1, 0, true},
		{square, edge(0, 4, 0, 0, 1), 1, 0, true},
		{each(square, back), edge(0, 0, 4, 0, 1), -1, 0, true},
		{each(square, back), edge(4, 0, 4, 4, 1), -1, 0, true},
		{each(square, back), edge(4, 4, 0, 4, 1), -1, 0, true},
		{each(square, back), edge(0, 4, 0, 0, 1), -1, 0, true},
		{append(slices.Clone(square), square...), edge(4, 0, 4, 4, 1), 2, 0, true},
		{append(each(square, back), square...), edge(4, 0, 4, 4, 1), 0, 0, true},
		{square, edge(1, 1, 3, 3, 1), 1, 1, true},
		{square, edge(1, 2, 3, 2, 1), 1, 1, true},
		{square, edge(2, 3, 2, 1, 1), 1, 1, true},
		{square, edge(-3, 2, -1, 2, 1), 0, 0, true},
		{square, edge(-3, 0, -1, 0, 1), 0, 0, true},
		{square, edge(-3, 4, -1, 4, 1), 0, 0, true},
		{square, edge(5, 4, 9, 4, 1), 0, 0, true},
		{square, edge(-1, -1, -1, 1, 1), 0, 0, true},
		{square, edge(-1, 3, -1, 5, 1), 0, 0, true},
		{square, edge(1, 0, 2, 0, 1), 1, 0, true},   // a part of a way
		{square, edge(-9, 0, 11, 0, 1), 1, 0, true}, // further than the way
		{square, edge(4, -9, 4, 14, 1), 1, 0, true},
		{square, edge(1, 0, 2, 0, 1000), 1, 0, true},
		{square, edge(3999, 4000, 3998, 4000, 1000), 1, 0, true},
		{square, edge(-4, 0, 4, 0, 1), 0, 0, false}, // the middle is a corner
		{square, edge(0, 0, 8, 0, 1), 0, 0, false},
		{square, edge(4, 2, 4, 6, 1), 0, 0, false},
		{square, edge(0, 0, 8, 8, 1), 0, 0, false},
		{square, edge(-1, 2, 1, 2, 1), 0, 0, false}, // a way goes through the middle
		{square, edge(2, 3, 2, 5, 1), 0, 0, false},
		{square, edge(3, 1, 5, 3, 1), 0, 0, false},
		{square, edge(3, 1, 5, 4, 1), 0, 0, false},
		{square, edge(-2, 0, 4, 0, 1), 1, 0, true}, // it goes through other places of the edge
		{square, edge(2, 2, 8, 2, 1), 0, 0, true},
		{around, edge(1, 1, 3, 1, 1), 2, 1, true},
		{around, edge(1, 1, 1, 3, 1), 1, 2, true},
		{around, edge(3, 3, 3, 1, 1), 1, 2, true},
		{around, edge(0, 0, 0, 4, 1), 0, 1, true},
		{slope, edge(0, 0, 6, 2, 1), 1, 0, true},
		{slope, edge(6, 2, 0, 4, 1), 1, 0, true},
		{slope, edge(0, 4, 0, 0, 1), 1, 0, true},
		{slope, edge(3, 1, 6, 2, 1), 1, 0, true},
		{slope, edge(7, 2, 9, 2, 1), 0, 0, true},
		{slope, edge(-7, 2, -5, 2, 1), 0, 0, true}, // at the height of a corner
		{slope, edge(1, 2, 5, 2, 1), 1, 1, true},
		{slope, edge(2, 0, 6, 4, 1), 1, 1, true},
		{slope, edge(4, 4, 8, 0, 1), 0, 0, false},
	} {
		besideIs(t, c.l, c.e, c.left, c.right, c.ok)
		reversed := slices.Clone(c.l)
		slices.Reverse(reversed)
		besideIs(t, reversed, c.e, c.left, c.right, c.ok)
		besideIs(t, each(c.l, back), c.e, -c.left, -c.right, c.ok)
	}
}

// P19.2: by hand: one way alone, which goes past the middle or doesn't, just where it ends.
func TestBesideOfOneByHand(t *testing.T) {
	up := way(6, 1, 6, 5)
	for _, c := range []struct {
		e           api.Edge
		left, right int
		ok          bool
	}{
		// edges that go up, and down as besideIs turns them round: where the way begins counts, where it ends doesn't
		{edge(0, 0, 0, 2, 1), 1, 1, true},
		{edge(0, 0, 2, 2, 1), 1, 1, true},
		{edge(0, 4, 0, 6, 1), 0, 0, true},
		{edge(0, 4, 2, 6, 1), 0, 0, true},
		{edge(0, 0, 0, 1, 1), 0, 0, true},
		{edge(0, 1, 0, 2, 1), 1, 1, true},
		{edge(9, 0, 9, 6, 1), 0, 0, true},
		// level ones: just above and just below
		{edge(0, 0, 2, 0, 1), 0, 0, true},
		{edge(0, 1, 2, 1, 1), 1, 0, true},
		{edge(0, 2, 2, 2, 1), 1, 1, true},
		{edge(0, 3, 2, 3, 2), 1, 1, true},
		{edge(0, 1, 2, 1, 2), 0, 0, true},
		{edge(0, 5, 2, 5, 1), 0, 1, true},
		{edge(0, 6, 2, 6, 1), 0, 0, true},
		{edge(0, 11, 2, 11, 2), 0, 0, true},
		{edge(8, 1, 9, 1, 1), 0, 0, true},
		{edge(8, 5, 9, 5, 1), 0, 0, true},
		// on the way
		{edge(6, 1, 6, 5, 1), 1, 0, true},
		{edge(6, 2, 6, 3, 1), 1, 0, true},
		{edge(6, 0, 6, 2, 1), 0, 0, false},
		{edge(6, 4, 6, 6, 1), 0, 0, false},
		{edge(5, 1, 7, 1, 1), 0, 0, false},
		{edge(5, 5, 7, 5, 1), 0, 0, false},
		{edge(5, 3, 7, 3, 1), 0, 0, false},
		{edge(5, 2, 7, 4, 1), 0, 0, false},
		// on its line
		{edge(6, 5, 6, 9, 1), 0, 0, true},
		{edge(6, 0, 6, 1, 1), 0, 0, true},
		{edge(6, 1, 6, 0, 1000), 0, 0, true},
	} {
		besideIs(t, []api.Seg{up}, c.e, c.left, c.right, c.ok)
		besideIs(t, []api.Seg{back(up)}, c.e, -c.left, -c.right, c.ok)
		besideIs(t, []api.Seg{up, up, back(up), up}, c.e, 2*c.left, 2*c.right, c.ok)
	}
}

// P19.2: a way that goes nowhere counts for nothing, be it in the middle; one that may not be neither.
func TestBesideOfNothing(t *testing.T) {
	for _, e := range []api.Edge{edge(0, 0, 4, 0, 1), edge(2, -2, 2, 2, 1), edge(0, -1, 4, 1, 1), edge(1, 1, 3, -1, 1)} {
		besideIs(t, []api.Seg{way(2, 0, 2, 0)}, e, 0, 0, true)
		besideIs(t, []api.Seg{way(2, 0, 2, 0), way(5, -3, 5, 3), way(0, 0, 0, 0), way(2, 0, 2, 0)}, e, 1, 1, true)
		besideIs(t, []api.Seg{way(2, 0, most+1, 0), way(2, -most-1, 2, most), way(0, -1, 1<<32+4, 1), way(5, -3, 5, 3)}, e, 1, 1, true)
	}
	for _, w := range wrongWays() {
		for _, e := range []api.Edge{edge(-1, 0, 1, 0, 1), edge(0, 1, 0, -1, 1), edge(1, 1, 3, 3, 1), {A: spot.At(w.A), B: spot.At(w.B)}, edge(1, 1, 2, 0, 1), edge(-1, -1, 7, 7, 1)} {
			ok := !spot.Same(e.A, e.B)
			besideIs(t, []api.Seg{w}, e, 0, 0, ok)
			besideIs(t, []api.Seg{back(w), w, w}, e, 0, 0, ok)
		}
		for i := range len(square) + 1 {
			l := slices.Insert(slices.Clone(square), i, w)
			besideIs(t, l, edge(0, 0, 4, 0, 1), 1, 0, true)
			besideIs(t, l, edge(4, 0, 4, 4, 1), 1, 0, true)
			besideIs(t, l, edge(4, 4, 3, 4, 1), 1, 0, true)
			besideIs(t, l, edge(1, 1, 3, 3, 1), 1, 1, true)
			besideIs(t, l, edge(3, 2, 5, 2, 1), 0, 0, false)
		}
	}
}

// P19.2: edges whose ends are one point, in all forms.
func TestBesideOfPoints(t *testing.T) {
	for _, p := range []api.Point{pt(0, 0), pt(2, 2), pt(4, 1), pt(-3, 0), pt(0, -3)} {
		all := forms(p)
		for i, a := range all {
			e := api.Edge{A: a, B: all[(5*i+1)%len(all)]}
			for _, l := range [][]api.Seg{nil, square, {way(0, 0, 0, 0)}, {way(9, -9, 9, 9)}} {
				besideIs(t, l, e, 0, 0, false)
			}
		}
	}
	for _, p := range hugeSpots() {
		besideIs(t, square, api.Edge{A: p, B: p}, 0, 0, false)
	}
}

// P19.2: each way, alone and with two others, of small grids, beside all edges between spots around.
func TestBesideOfSmall(t *testing.T) {
	for _, g := range [][3]int{{3, 2, 1}, {2, 2, 2}, {2, 3, 1}} {
		all, around := grid(g[0], g[1]), spots(g[0], g[1], g[2])
		for i, a := range around {
			for k, b := range around[i:] {
				e := api.Edge{A: a, B: b}
				for n := (i + k) % 3; n < len(all); n += 3 {
					besideHolds(t, []api.Seg{all[n]}, e)
					besideHolds(t, []api.Seg{all[n], all[(7*n+i)%len(all)], all[(11*n+k)%len(all)]}, e)
				}
			}
		}
	}
}

// edge answers an edge that has to do with ways within n of 0: along one of them, with its middle on one or at one's end, or of any spots.
func (d *dice) edge(l []api.Seg, n int) api.Edge {
	a, b := d.spot(l, n), d.spot(l, n)
	if len(l) == 0 {
		return api.Edge{A: a, B: b}
	}
	s := l[d.roll(len(l))]
	on := func() api.Spot { return spot.Toward(spot.At(s.A), spot.At(s.B), of(d.roll(9)-2, 5)) }
	switch d.roll(6) {
	case 0:
		return api.Edge{A: on(), B: on()}
	case 1:
		return api.Edge{A: a, B: spot.Toward(a, on(), of(2, 1))}
	case 2:
		return api.Edge{A: a, B: spot.Toward(a, spot.At(s.A), of(2, 1))}
	case 3:
		b.Y = a.Y
	case 4:
		b.X = a.X
	}
	return api.Edge{A: a, B: b}
}

// P19.2: ways of all sizes to the limits, and edges that have to do with them.
func TestBesideOfAny(t *testing.T) {
	d := dice(5)
	parted := 0
	for i := range 1500 {
		n := []int{4, 300, 70000, most}[i%4]
		l := d.ways(d.roll(10), n)
		if i%3 == 0 {
			l = d.loops(1+d.roll(3), n)
		}
		for range 3 {
			e := d.edge(l, n)
			besideHolds(t, l, e)
			if left, right, _ := turn.Beside(l, e); left != right {
				parted++
			}
		}
	}
	if parted < 120 {
		t.Errorf("%d edges alone part anything", parted)
	}
}

// P19.2: edges in all forms.
func TestBesideOfForms(t *testing.T) {
	for _, p := range []api.Point{pt(0, 0), pt(4, 0), pt(0, 4), pt(2, 2), pt(-3, 0)} {
		for _, q := range []api.Point{pt(4, 4), pt(0, 0), pt(0, -2), pt(5, 0)} {
			for i, a := range forms(p) {
				all := forms(q)
				e := api.Edge{A: a, B: all[(3*i+1)%len(all)]}
				besideHolds(t, square, e)
				besideHolds(t, []api.Seg{way(0, -1, 0, 1), way(3, 1, 1, -1), way(-3, 2, 5, 2)}, e)
			}
		}
	}
}

// P19.2: edges beyond the limits, and from there to here: their middles lie anywhere.
func TestBesideOfHuge(t *testing.T) {
	page := loop(pt(-most, -most), pt(most, -most), pt(most, most), pt(-most, most))
	all := hugeSpots()
	slices.SortFunc(all, spot.Cmp)
	for i, a := range all {
		for _, b := range []api.Spot{at(most, most, 1), all[len(all)-1-i], all[(17*i+5)%len(all)]} {
			e := api.Edge{A: a, B: b}
			besideHolds(t, page, e)
			besideHolds(t, []api.Seg{way(-most, most, most, -most), way(0, most, 0, -most), way(most, 0, most-1, most), way(-most, -most, most, -most+1)}, e)
		}
	}
}

// aims answers how many ways go along an edge at its middle, less those that go against it.
func aims(l []api.Seg, e api.Edge) int {
	a, b := worths(e.A), worths(e.B)
	m, out := middle(a, b), 0
	for _, s := range l {
		if !fits(s) || s.A == s.B || !goesOver(s, m) {
			continue
		}
		from, to := point(s.A), point(s.B)
		out += sum(mul(less(to.x, from.x), less(b.x, a.x)), mul(less(to.y, from.y), less(b.y, a.y))).Sign()
	}
	return out
}

// P19.4: of ways that close, a piece's left side has as many turns more as ways go along it, less those that go against it; and what is between two pieces has one number of turns.
func TestBesideOfPieces(t *testing.T) {
	d := dice(6)
	for i := range 120 {
		n := []int{3, 9, 70000, most}[i%4]
		l := d.loops(1+d.roll(2), n)
		if i%5 == 0 {
			l = append(l, way(0, 0, most+1, 0), way(1, 1, 1, 1))
		}
		for _, e := range split.Pieces(l) {
			for _, e := range []api.Edge{e, split.Turned(e)} {
				left, right, ok := turn.Beside(l, e)
				if !ok || left-right != aims(l, e) {
					t.Errorf("Beside(%v, %s to %s): %d, %d, %t; %d along it", l, text(worths(e.A)), text(worths(e.B)), left, right, ok, aims(l, e))
				}
			}
			besideHolds(t, l, e)
		}
	}
}

// P19.4: of all rings of a hatch that goes over itself.
func TestBesideOfGrids(t *testing.T) {
	var l []api.Seg
	for i := range 6 {
		l = append(l, loop(pt(i, 0), pt(i+3, 0), pt(i+3, 9), pt(i, 9))...)
		l = append(l, loop(pt(0, i), pt(0, i+2), pt(9, i+2), pt(9, i))...)
	}
	for _, e := range split.Pieces(l) {
		besideHolds(t, l, e)
		left, right, ok := turn.Beside(l, e)
		if !ok || left-right != aims(l, e) {
			t.Errorf("Beside(hatch, %s to %s): %d, %d, %t", text(worths(e.A)), text(worths(e.B)), left, right, ok)
		}
	}
}

// P19.2: as many ways as a scene has.
func TestBesideOfMany(t *testing.T) {
	var l []api.Seg
	for i := range 750 {
		l = append(l, loop(pt(-i-1, -i-1), pt(i+1, -i-1), pt(i+1, i+1), pt(-i-1, i+1))...)
	}
	for i := 0; i < 750; i += 7 {
		besideIs(t, l, edge(-i-1, -i-1, i+1, -i-1, 1), 750-i, 749-i, true)
		besideIs(t, l, edge(i+1, i+1, i+1, -i, 1), 749-i, 750-i, true)
		besideIs(t, l, edge(i, 2*i+1, i+1, 2*i+1, 2), max(0, 750-i), max(0, 750-i), true)
		besideIs(t, l, edge(-1, -1, 2*i+3, 2*i+3, 1), 0, 0, false)
	}
	besideIs(t, slices.Repeat([]api.Seg{way(5, -5, 5, 5)}, 100000), edge(5, -9, 5, 9, 1), 100000, 0, true)
	besideIs(t, slices.Repeat([]api.Seg{way(5, 5, 5, -5)}, 100000), edge(0, 0, 2, 0, 1), -100000, -100000, true)
}
