package spot_test

import (
	"slices"
	"testing"

	"frisket/api"
	"frisket/spot"
)

// rows holds Row against a slow way of its own.
func rows(t *testing.T, l []api.Spot) {
	t.Helper()
	var want []pair
	for _, a := range l {
		x := worths(a)
		i, there := slices.BinarySearchFunc(want, x, pair.cmp)
		if !there {
			want = slices.Insert(want, i, x)
		}
	}
	was := copied(l)
	got := spot.Row(l)
	if !slices.EqualFunc(l, was, alike) {
		t.Errorf("Row changed what it was handed")
	}
	if len(got) != len(want) {
		t.Fatalf("Row of %d spots: %d, not %d", len(l), len(got), len(want))
	}
	for i, a := range got {
		is(t, "Row", a, want[i])
	}
	if cap(got) != len(got) {
		t.Errorf("Row of %d spots: room for %d behind them", len(got), cap(got)-len(got))
	}
}

// P5.3
func TestRow(t *testing.T) {
	rows(t, nil)
	rows(t, []api.Spot{})
	rows(t, []api.Spot{{}})
	rows(t, []api.Spot{at(1, 2), at(1, 2)})
	rows(t, []api.Spot{at(2, 1), at(1, 2), at(1, 1), at(2, 2), at(1, 2), at(-1, 5), at(2, 1)})
	rows(t, spots())
	rows(t, append(spots(), spots()...))
	back := spots()
	slices.Reverse(back)
	rows(t, back)
	d := dice(10)
	for n := range 60 {
		var l []api.Spot
		for range n {
			l = append(l, d.spot(2), spot.At(d.point(2)))
		}
		rows(t, l)
	}
}

// P5.3: one point in many forms is there once, reduced.
func TestRowOfForms(t *testing.T) {
	var l []api.Spot
	for n := range 200 {
		l = append(l, api.Spot{X: of(-(n + 1), 2*(n+1)), Y: of(3*(n+1), n+1)}, api.Spot{X: of(n, 0), Y: f(true, []uint32{0}, []uint32{uint32(n)})})
	}
	rows(t, l)
	got := spot.Row(l)
	if len(got) != 2 || !alike(got[0], api.Spot{X: f(true, []uint32{1}, []uint32{2}), Y: of(3, 1)}) || !alike(got[1], api.Spot{X: f(false, nil, []uint32{1}), Y: f(false, nil, []uint32{1})}) {
		t.Errorf("Row of two points in many forms: %v", got)
	}
}

// P5.3: what is put behind a row goes elsewhere.
func TestRowHasNoRoom(t *testing.T) {
	row := spot.Row([]api.Spot{at(1, 1), at(1, 1), at(2, 2), at(1, 1)})
	one, other := append(row, at(3, 3)), append(row, at(4, 4))
	is(t, "one", one[2], worths(at(3, 3)))
	is(t, "other", other[2], worths(at(4, 4)))
}

// P5.3
func TestRowOfARow(t *testing.T) {
	row := spot.Row(spots())
	if again := spot.Row(row); !slices.EqualFunc(row, again, alike) {
		t.Errorf("a row's row isn't itself")
	}
	for i := range row[1:] {
		if spot.Cmp(row[i], row[i+1]) != -1 {
			t.Errorf("%v ahead of %v", row[i], row[i+1])
		}
	}
}
