package split_test

import (
	"slices"
	"testing"

	"frisket/api"
	"frisket/split"
	"frisket/spot"
)

// hand are ways, and what they are cut into.
var hand = []struct {
	l    []api.Seg
	want string
}{
	{[]api.Seg{way(0, 0, 4, 4), way(0, 4, 4, 0)}, "0 0 to 2 2, 0 4 to 2 2, 2 2 to 4 0, 2 2 to 4 4"}, // the chapter's example
	{nil, ""},
	{[]api.Seg{}, ""},
	{[]api.Seg{way(0, 0, 4, 4)}, "0 0 to 4 4"},
	{[]api.Seg{way(4, 4, 0, 0)}, "0 0 to 4 4"},
	{[]api.Seg{way(4, -4, 4, -9)}, "4 -9 to 4 -4"},
	{[]api.Seg{way(4, 0, -4, 1)}, "-4 1 to 4 0"},
	{[]api.Seg{way(0, 0, 4, 4), way(0, 0, 4, 4), way(4, 4, 0, 0)}, "0 0 to 4 4"},

	// through one another in other points than the grid's
	{[]api.Seg{way(0, 0, 3, 1), way(1, 1, 2, 0)}, "0 0 to 3/2 1/2, 1 1 to 3/2 1/2, 3/2 1/2 to 2 0, 3/2 1/2 to 3 1"},
	{[]api.Seg{way(0, 0, 9, 0), way(1, -1, 2, 1), way(7, 1, 7, -1)}, "0 0 to 3/2 0 to 7 0 to 9 0, 1 -1 to 3/2 0, 3/2 0 to 2 1, 7 -1 to 7 0, 7 0 to 7 1"},
	{[]api.Seg{way(0, 0, 6, 6), way(0, 6, 6, 0), way(0, 3, 6, 3), way(3, 0, 3, 6)}, "0 0 to 3 3, 0 3 to 3 3, 0 6 to 3 3, 3 0 to 3 3, 3 3 to 3 6, 3 3 to 6 0, 3 3 to 6 3, 3 3 to 6 6"},

	// an end of the one on the other one, an end on an end, and just not
	{[]api.Seg{way(0, 0, 4, 0), way(2, 0, 2, 5)}, "0 0 to 2 0 to 4 0, 2 0 to 2 5"},
	{[]api.Seg{way(2, 5, 2, 0), way(4, 0, 0, 0)}, "0 0 to 2 0 to 4 0, 2 0 to 2 5"},
	{[]api.Seg{way(0, 0, 4, 0), way(4, 0, 4, 4), way(4, 4, 0, 0)}, "0 0 to 4 0, 0 0 to 4 4, 4 0 to 4 4"},
	{[]api.Seg{way(0, 0, 4, 0), way(2, 1, 2, 5), way(5, 0, 6, 0), way(5, -1, 5, -9)}, "0 0 to 4 0, 2 1 to 2 5, 5 -9 to 5 -1, 5 0 to 6 0"},

	// on one line
	{[]api.Seg{way(0, 0, 3, 3), way(2, 2, 5, 5)}, "0 0 to 2 2, 2 2 to 3 3, 3 3 to 5 5"},
	{[]api.Seg{way(0, 0, 3, 3), way(5, 5, 2, 2)}, "0 0 to 2 2, 2 2 to 3 3, 3 3 to 5 5"},
	{[]api.Seg{way(0, 0, 9, 0), way(6, 0, 2, 0)}, "0 0 to 2 0 to 6 0 to 9 0"},
	{[]api.Seg{way(0, 9, 0, 0), way(0, 2, 0, 6), way(0, 4, 0, 12)}, "0 0 to 0 2 to 0 4 to 0 6 to 0 9 to 0 12"},
	{[]api.Seg{way(0, 0, 2, 2), way(2, 2, 5, 5)}, "0 0 to 2 2 to 5 5"},
	{[]api.Seg{way(0, 0, 2, 2), way(3, 3, 5, 5)}, "0 0 to 2 2, 3 3 to 5 5"},
	{[]api.Seg{way(0, 0, 6, 3), way(0, 0, 4, 2), way(1, 0, 1, 1)}, "0 0 to 1 1/2 to 4 2 to 6 3, 1 0 to 1 1/2, 1 1/2 to 1 1"},

	// ways that go nowhere are no pieces, but cut others
	{[]api.Seg{way(3, 3, 3, 3)}, ""},
	{[]api.Seg{way(3, 3, 3, 3), way(3, 3, 3, 3)}, ""},
	{[]api.Seg{way(3, 3, 3, 3), way(0, 0, 6, 6)}, "0 0 to 3 3, 3 3 to 6 6"},
	{[]api.Seg{way(0, 0, 6, 6), way(6, 6, 6, 6), way(0, 0, 0, 0), way(2, 3, 2, 3), way(7, 7, 7, 7)}, "0 0 to 6 6"},

	// such as may not be are no pieces, and cut nothing
	{[]api.Seg{way(0, 0, 6, 6), way(3, 3, most+1, 3), way(3, most+1, 3, -3), way(2, 2, 2, -most-1)}, "0 0 to 6 6"},
	{[]api.Seg{way(0, 0, most, 0), way(most, 0, most, most), way(3, most, 3, -most)}, "0 0 to 3 0 to 8388607 0 to 8388607 8388607, 3 -8388607 to 3 0, 3 0 to 3 8388607"},
	{[]api.Seg{way(-most, -most, most, most), way(most, -most, -most, most)}, "-8388607 -8388607 to 0 0 to 8388607 8388607, -8388607 8388607 to 0 0, 0 0 to 8388607 -8388607"},
}

// toldRow answers the edges that a text tells, in order.
func toldRow(t *testing.T, s string) []link {
	t.Helper()
	var out []link
	if s != "" {
		out = told(t, s)
	}
	slices.SortFunc(out, link.cmp)
	return out
}

// P18.2: by hand, and with the ways backwards and turned round.
func TestPiecesByHand(t *testing.T) {
	for _, h := range hand {
		want := toldRow(t, h.want)
		l := slices.Clone(h.l)
		piecesAre(t, l, want)
		slices.Reverse(l)
		piecesAre(t, l, want)
		piecesAre(t, each(l, back), want)
		piecesAre(t, append(slices.Clone(h.l), each(l, back)...), want)
	}
}

// P18.2 and P18.1: the chapter's example: four pieces, five ends.
func TestExample(t *testing.T) {
	l := split.Pieces([]api.Seg{way(0, 0, 4, 4), way(0, 4, 4, 0)})
	if len(l) != 4 || len(split.Ends(l)) != 5 {
		t.Errorf("%v", l)
	}
}

// P18.2: each two, and each three in a row, of the ways between the points of small grids.
func TestPiecesOfSmall(t *testing.T) {
	for _, all := range [][]api.Seg{grid(3, 2), grid(1, 4), grid(5, 1)} {
		for i, s := range all {
			piecesAre(t, []api.Seg{s}, pieces([]api.Seg{s}))
			for k, u := range all {
				l := []api.Seg{s, u, all[(i+5*k)%len(all)]}
				piecesAre(t, l[:2], pieces(l[:2]))
				piecesAre(t, l, pieces(l))
			}
		}
	}
}

// P18.2: each two of the ways between the points of a square grid.
func TestPiecesOfTwo(t *testing.T) {
	all := grid(3, 3)
	for _, s := range all {
		for _, u := range all {
			piecesAre(t, []api.Seg{s, u}, pieces([]api.Seg{s, u}))
		}
	}
}

// P18.2: all the ways of a grid at once.
func TestPiecesOfGrids(t *testing.T) {
	for _, all := range [][]api.Seg{grid(3, 3), grid(4, 3), grid(2, 5), grid(1, 1), grid(9, 1), grid(1, 9)} {
		want := pieces(all)
		piecesAre(t, all, want)
		slices.Reverse(all)
		piecesAre(t, all, want)
	}
}

// P18.2: ways of all sizes to the limits, and such as have to do with one another.
func TestPiecesOfAny(t *testing.T) {
	d := dice(5)
	for i := range 400 {
		l := d.ways(d.roll(14), []int{4, 300, 70000, most}[i%4])
		piecesAre(t, l, pieces(l))
	}
}

// P18.2: nearly on one line, at the limits: such ways' boxes have much in common, and where they meet takes the longest words.
func TestPiecesOfFlat(t *testing.T) {
	d := dice(6)
	end := func() int { return most - d.roll(4) }
	for range 150 {
		l := []api.Seg{way(-end(), -end(), end(), end()), way(-end(), d.roll(3), end(), d.roll(3)), way(d.roll(3), end(), d.roll(3), -end()), way(-end(), -end(), end(), end()), way(-end(), end(), end(), -end())}
		piecesAre(t, l, pieces(l))
	}
}

// P18.2: ways whose boxes have a corner, a side or a line alone in common.
func TestPiecesOfBoxes(t *testing.T) {
	all := []api.Seg{way(0, 0, 4, 4), way(4, 4, 8, 0), way(4, 4, 4, 9), way(4, 4, 9, 4), way(0, 8, 4, 4), way(4, 3, 8, 3), way(3, 4, 3, 8), way(0, 4, 4, 4), way(4, 0, 4, 4), way(-4, 0, 0, 0), way(0, -4, 0, 0), way(0, 0, 0, 4), way(2, 2, 2, 2), way(4, 4, 4, 4)}
	for _, s := range all {
		for _, u := range all {
			for _, l := range [][]api.Seg{{s, u}, {back(s), u}, {s, back(u)}, {back(s), back(u)}} {
				piecesAre(t, l, pieces(l))
			}
		}
	}
}

// P18.2: a way that may not be is no piece and cuts nothing, wherever it stands.
func TestPiecesOfWrong(t *testing.T) {
	some := []api.Seg{way(-5, -5, 5, 5), way(0, 3, 7, 3), way(-1, 3, -1, -3), way(1, 1, 1, 1)}
	want := pieces(some)
	for _, w := range wrongWays() {
		piecesAre(t, []api.Seg{w}, nil)
		piecesAre(t, []api.Seg{w, back(w)}, nil)
		for i := range len(some) + 1 {
			piecesAre(t, slices.Insert(slices.Clone(some), i, w), want)
		}
	}
	piecesAre(t, append(wrongWays(), some...), want)
	piecesAre(t, append(slices.Clone(some), wrongWays()...), want)
	piecesAre(t, wrongWays(), nil)
}

// P18.2: a comb of many teeth, handed in out of order.
func TestPiecesOfMany(t *testing.T) {
	const many = 3000
	l := []api.Seg{way(many+1, 0, 0, 0)}
	var want []link
	edge := func(ax, ay, bx, by int) { want = append(want, link{at(pt(ax, ay)), at(pt(bx, by))}) }
	for i := range many {
		x := 1 + i*1009%many // each once, as 1009 has no factor in common with 3000
		l = append(l, way(x, 2-i%2*3, x, i%2*3-1))
	}
	edge(0, 0, 1, 0)
	for x := 1; x <= many; x++ {
		edge(x, -1, x, 0)
		edge(x, 0, x, 2)
		edge(x, 0, x+1, 0)
	}
	slices.SortFunc(want, link.cmp)
	piecesAre(t, l, want)
}

// P18.2: a lattice: each of its ways is cut by all that go the other way.
func TestPiecesOfLattice(t *testing.T) {
	const many = 90
	var l []api.Seg
	var want []link
	for i := range many {
		l = append(l, way(many, i, -1, i), way(i, -1, i, many))
		for k := -1; k < many; k++ {
			want = append(want, link{at(pt(k, i)), at(pt(k+1, i))}, link{at(pt(i, k)), at(pt(i, k+1))})
		}
	}
	slices.SortFunc(want, link.cmp)
	piecesAre(t, l, want)
}

// P18.2: one way many times is there once.
func TestPiecesOfOne(t *testing.T) {
	var l []api.Seg
	for i := range 3000 {
		s := way(1, 2, 3, 4)
		if i%3 == 0 {
			s = back(s)
		}
		l = append(l, s)
	}
	piecesAre(t, l, told(t, "1 2 to 3 4"))
}

// P18.2: an answer is new memory, and its edges share none; what stands behind the ways stays as it is.
func TestPiecesAreNew(t *testing.T) {
	for _, h := range hand {
		want := toldRow(t, h.want)
		apartAre(t, split.Pieces(h.l))
		edgesAre(t, "Pieces", h.l, split.Pieces(h.l), want)
	}
	all := []api.Seg{way(4, 4, 0, 0), way(4, 0, 0, 4), way(2, 9, 2, -9)}
	piecesAre(t, all[:2], toldRow(t, hand[0].want))
	if all[2] != way(2, 9, 2, -9) {
		t.Errorf("what stands behind became %v", all[2])
	}
	got := split.Pieces(all[:1])
	one, other := append(got, edge(5, 5, 6, 6)), append(got, edge(7, 7, 8, 8))
	edgesAre(t, "Pieces", "one", one, told(t, "0 0 to 4 4, 5 5 to 6 6"))
	edgesAre(t, "Pieces", "other", other, told(t, "0 0 to 4 4, 7 7 to 8 8"))
}

// scenes are ways of all kinds.
func scenes() [][]api.Seg {
	d := dice(7)
	out := [][]api.Seg{grid(3, 3), grid(4, 2)}
	for i := range 60 {
		out = append(out, d.ways(10+d.roll(10), []int{5, 300, most}[i%3]))
	}
	return out
}

// P18.3: no piece has an end of another one inside, and no two pieces meet but in ends.
func TestNoEndIsInside(t *testing.T) {
	for _, l := range scenes() {
		got := split.Pieces(l)
		for _, e := range got {
			for _, p := range split.Ends(got) {
				if spot.On(e.A, e.B, p) && !spot.Same(e.A, p) && !spot.Same(e.B, p) {
					t.Errorf("%s has %s inside", telling(linkOf(e)), spot.Text(p))
				}
			}
			if spot.Cmp(e.A, e.B) >= 0 {
				t.Errorf("%s doesn't rise", telling(linkOf(e)))
			}
		}
	}
}

// P18.3: each way that goes somewhere is pieces, one behind the other; and each piece is on a way.
func TestEachWayIsPieces(t *testing.T) {
	for _, l := range scenes() {
		got := split.Pieces(l)
		held := make([]bool, len(got))
		for _, s := range l {
			a, b := spot.At(s.A), spot.At(s.B)
			if spot.Cmp(a, b) > 0 {
				a, b = b, a
			}
			on := a // in order, as a row's pieces of one way are
			for i, e := range got {
				if spot.On(a, b, e.A) && spot.On(a, b, e.B) {
					held[i] = true
					if !spot.Same(on, e.A) {
						t.Errorf("of %v there is nothing from %s to %s", s, spot.Text(on), spot.Text(e.A))
					}
					on = e.B
				}
			}
			if !spot.Same(on, b) {
				t.Errorf("%v ends in %s", s, spot.Text(on))
			}
		}
		if i := slices.Index(held, false); i >= 0 {
			t.Errorf("%s is on no way", telling(linkOf(got[i])))
		}
	}
}

// P18.3: what is the same way twice changes nothing, nor does where it stands, or which way it goes.
func TestTwiceIsOnce(t *testing.T) {
	for _, l := range scenes() {
		want := linksOf(split.Pieces(l))
		twice := append(slices.Clone(l), l...)
		slices.Reverse(twice[3:])
		piecesAre(t, twice, want)
		for i := range l {
			piecesAre(t, append(slices.Clone(l), back(l[i])), want)
		}
	}
}

// P18.3: pieces that go along ways already, as pieces do, change nothing once more: of points of the grid the pieces of pieces are themselves.
func TestPiecesOfPieces(t *testing.T) {
	l := []api.Seg{way(0, 0, 8, 8), way(0, 8, 8, 0), way(4, 0, 4, 8), way(6, 6, 2, 2), way(0, 0, 8, 0)}
	var again []api.Seg
	for _, e := range split.Pieces(l) {
		w := linkOf(e)
		again = append(again, way(int(w.a.x.Num().Int64()), int(w.a.y.Num().Int64()), int(w.b.x.Num().Int64()), int(w.b.y.Num().Int64())))
	}
	piecesAre(t, again, linksOf(split.Pieces(l)))
}
