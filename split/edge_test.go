package split_test

import (
	"slices"
	"testing"

	"frisket/api"
	"frisket/split"
	"frisket/spot"
)

// edge answers an edge between points of the grid.
func edge(ax, ay, bx, by int) api.Edge {
	return api.Edge{A: spot.At(pt(ax, ay)), B: spot.At(pt(bx, by))}
}

// P18.1: Cmp by hand: the first of A's X, A's Y, B's X and B's Y that are unlike tells, whatever stands behind it.
func TestCmpByHand(t *testing.T) {
	for _, c := range []struct {
		a, b api.Edge
		want int
	}{
		{edge(0, 0, 0, 0), edge(0, 0, 0, 0), 0},
		{edge(1, 2, 3, 4), edge(1, 2, 3, 4), 0},
		{edge(0, 0, 0, 0), edge(1, 0, 0, 0), -1},
		{edge(0, 0, 0, 0), edge(0, 1, 0, 0), -1},
		{edge(0, 0, 0, 0), edge(0, 0, 1, 0), -1},
		{edge(0, 0, 0, 0), edge(0, 0, 0, 1), -1},
		{edge(1, 9, 9, 9), edge(2, 0, 0, 0), -1},
		{edge(1, 1, 9, 9), edge(1, 2, 0, 0), -1},
		{edge(1, 1, 1, 9), edge(1, 1, 2, 0), -1},
		{edge(-2, 5, 5, 5), edge(-1, 0, 0, 0), -1},
		{edge(0, 0, 4, 4), edge(4, 4, 0, 0), -1},
		{edge(0, 4, 4, 0), edge(0, 4, 4, -1), 1},
		{edgeOf([4]api.Frac{of(1, 2), of(0, 1), of(0, 1), of(0, 1)}), edgeOf([4]api.Frac{of(2, 4), of(0, 7), {}, of(5, 0)}), 0},
		{edgeOf([4]api.Frac{of(0, 1), of(0, 1), of(0, 1), of(1, 3)}), edgeOf([4]api.Frac{of(0, 1), of(0, 1), of(0, 1), of(2, 5)}), -1},
	} {
		if got := split.Cmp(c.a, c.b); got != c.want {
			t.Errorf("Cmp(%v, %v): %d", c.a, c.b, got)
		}
		if got := split.Cmp(c.b, c.a); got != -c.want {
			t.Errorf("Cmp(%v, %v): %d", c.b, c.a, got)
		}
	}
}

// P18.1: Cmp of all pairs of edges in all forms.
func TestCmpOfForms(t *testing.T) {
	l := append(edges(), few()...)
	was := copied(l)
	for _, a := range l {
		for _, b := range l {
			if got, want := split.Cmp(a, b), linkOf(a).cmp(linkOf(b)); got != want {
				t.Errorf("Cmp(%v, %v): %d", a, b, got)
			}
		}
	}
	if !slices.EqualFunc(l, was, same) {
		t.Error("Cmp changed an edge")
	}
}

// P18.1: Cmp of edges of all kinds.
func TestCmpOfAny(t *testing.T) {
	d := dice(1)
	for range 20000 {
		a, b := d.edge(), d.edge()
		switch d.roll(4) {
		case 0:
			b.A = a.A
		case 1:
			b = api.Edge{A: spot.Toward(a.A, a.B, of(0, 1)), B: a.B}
		case 2:
			b.A.X, b.B = a.A.X, a.B
		}
		if got, want := split.Cmp(a, b), linkOf(a).cmp(linkOf(b)); got != want {
			t.Errorf("Cmp(%v, %v): %d", a, b, got)
		}
	}
}

// P18.1: turned round, in new words, reduced.
func TestTurned(t *testing.T) {
	l := append(edges(), few()...)
	l = append(l, edge(1, 2, 3, 4), edge(5, 5, 5, 5), api.Edge{})
	d := dice(2)
	for range 300 {
		l = append(l, d.edge())
	}
	for _, e := range l {
		was := copied([]api.Edge{e})[0]
		got := split.Turned(e)
		edgesAre(t, "Turned", e, []api.Edge{got}, []link{linkBack(e)})
		edgesAre(t, "Turned twice", e, []api.Edge{split.Turned(got)}, []link{linkOf(e)})
		apartAre(t, []api.Edge{got})
		if !same(e, was) {
			t.Errorf("Turned changed %v to %v", was, e)
		}
	}
}

// rowIs holds Row of edges against what it is to be, and what it was handed against what that was; then it is as it was, too, though an answer's words change.
func rowIs(t *testing.T, l []api.Edge) {
	t.Helper()
	was := copied(l)
	got, want := split.Row(l), row(l)
	edgesAre(t, "Row", l, got, want)
	again := split.Row(got)
	edgesAre(t, "Row of Row", l, again, want)
	apartAre(t, append(again, got...))
	if !slices.EqualFunc(l, was, same) {
		t.Errorf("Row changed %v to %v", was, l)
	}
}

// P18.1: by Cmp, each once.
func TestRow(t *testing.T) {
	rowIs(t, nil)
	rowIs(t, []api.Edge{})
	rowIs(t, []api.Edge{{}})
	rowIs(t, []api.Edge{{}, {}})
	rowIs(t, []api.Edge{edge(0, 0, 1, 1), edge(1, 1, 0, 0), edge(0, 0, 1, 1)})
	rowIs(t, []api.Edge{edge(2, 2, 2, 2), edge(0, 4, 4, 0), edge(0, 0, 4, 4), edge(0, 4, 4, -1), edge(-1, 9, 9, 9), edge(0, 0, 4, 4)})
	rowIs(t, edges())
	rowIs(t, append(edges(), edges()...))
	rowIs(t, few())
	turned := each(few(), split.Turned)
	rowIs(t, append(turned, few()...))
	slices.Reverse(turned)
	rowIs(t, turned)
}

// P18.1: the row of a few edges, by hand.
func TestRowByHand(t *testing.T) {
	l := []api.Edge{edge(4, 0, 0, 0), edge(0, 4, 0, 0), edge(0, 0, 0, 4), edge(4, 0, 0, 0), edge(0, 0, 0, -4), edge(0, 0, -1, 9), edge(4, 0, 0, 0), edge(-4, 9, 9, 9)}
	want := told(t, "-4 9 to 9 9, 0 0 to -1 9, 0 0 to 0 -4, 0 0 to 0 4, 0 4 to 0 0, 4 0 to 0 0")
	edgesAre(t, "Row", l, split.Row(l), want)
}

// P18.1: all rows of up to five edges out of a few, which differ in one part alone.
func TestRowOfSmall(t *testing.T) {
	kinds := []api.Edge{edge(0, 0, 0, 0), edge(0, 0, 0, 1), edge(0, 0, 1, 0), edge(0, 1, 0, 0), edge(1, 0, 0, 0)}
	rows := [][]api.Edge{nil}
	for len(rows[0]) < 5 {
		var longer [][]api.Edge
		for _, l := range rows {
			for _, e := range kinds {
				longer = append(longer, append(slices.Clone(l), e))
			}
		}
		rows = longer
		for _, l := range rows {
			edgesAre(t, "Row", l, split.Row(l), row(l))
		}
	}
}

// P18.1: rows of all lengths, of edges of all kinds, some of them twice, in other forms and turned.
func TestRowOfAny(t *testing.T) {
	d := dice(3)
	for n := range 120 {
		var l []api.Edge
		for range n {
			e := d.edge()
			if len(l) > 0 && d.roll(3) == 0 {
				e = l[d.roll(len(l))]
			}
			if d.roll(4) == 0 {
				e = split.Turned(e)
			}
			l = append(l, e)
		}
		rowIs(t, l)
	}
}

// P18.1: one edge in many forms is there once.
func TestRowOfForms(t *testing.T) {
	var l []api.Edge
	for n := range 300 {
		half, three, none := of(-(n+1), 2*(n+1)), of(3*(n+1), n+1), of(n, 0)
		l = append(l, edgeOf([4]api.Frac{half, three, none, f(true, []uint32{0}, []uint32{uint32(n)})}))
	}
	rowIs(t, l)
	edgesAre(t, "Row", "many forms", split.Row(l), told(t, "-1/2 3 to 0 0"))
}

// P18.1: what is put behind a row, or stands behind what is handed in, goes nowhere else.
func TestRowHasNoRoom(t *testing.T) {
	all := []api.Edge{edge(1, 1, 2, 2), edge(0, 0, 3, 3), edge(1, 1, 2, 2), edge(-9, 0, 0, 0)}
	got := split.Row(all[:3])
	one, other := append(got, edge(5, 5, 6, 6)), append(got, edge(7, 7, 8, 8))
	edgesAre(t, "Row", "one", one, told(t, "0 0 to 3 3, 1 1 to 2 2, 5 5 to 6 6"))
	edgesAre(t, "Row", "other", other, told(t, "0 0 to 3 3, 1 1 to 2 2, 7 7 to 8 8"))
	edgesAre(t, "Row", "behind", all[3:], told(t, "-9 0 to 0 0"))
}

// spotsAre tells of spots that aren't, word by word, what is wanted.
func spotsAre(t *testing.T, of any, got []api.Spot, want []pair) {
	t.Helper()
	if !slices.EqualFunc(got, want, spotIs) {
		t.Errorf("Ends(%v): %v, not %s", of, got, each(want, text))
	}
}

// endsAre holds Ends of edges against what they are to be, as rowIs does a row.
func endsAre(t *testing.T, l []api.Edge) {
	t.Helper()
	was := copied(l)
	got := split.Ends(l)
	spotsAre(t, l, got, ends(l))
	apartAre(t, each(got, func(p api.Spot) api.Edge { return api.Edge{A: p} }))
	if !slices.EqualFunc(l, was, same) {
		t.Errorf("Ends changed %v to %v", was, l)
	}
}

// P18.1: all A and B, by Cmp, each once.
func TestEnds(t *testing.T) {
	endsAre(t, nil)
	endsAre(t, []api.Edge{})
	endsAre(t, []api.Edge{{}})
	endsAre(t, []api.Edge{edge(1, 1, 0, 0)})
	endsAre(t, []api.Edge{edge(1, 1, 1, 1), edge(1, 1, 1, 1)})
	endsAre(t, edges())
	endsAre(t, append(edges(), few()...))
	endsAre(t, each(few(), split.Turned))
	d := dice(4)
	for n := range 100 {
		var l []api.Edge
		for range n {
			e := d.edge()
			if len(l) > 0 && d.roll(2) == 0 {
				e.A = l[d.roll(len(l))].B
			}
			l = append(l, e)
		}
		endsAre(t, l)
	}
}

// P18.1: the ends of a few edges, by hand: those where edges begin and those where they end alike.
func TestEndsByHand(t *testing.T) {
	l := []api.Edge{edge(3, 3, 0, 0), edge(0, 4, 3, 3), edge(3, 3, 0, 4), edge(-1, 7, 9, -9), edge(0, -1, 0, -1)}
	want := []pair{at(pt(-1, 7)), at(pt(0, -1)), at(pt(0, 0)), at(pt(0, 4)), at(pt(3, 3)), at(pt(9, -9))}
	spotsAre(t, l, split.Ends(l), want)
	spotsAre(t, "backwards", split.Ends(each(l, split.Turned)), want)
}
