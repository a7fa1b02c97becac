package spot_test

import (
	"math/big"
	"testing"

	"frisket/api"
	"frisket/frac"
	"frisket/spot"
)

// turns holds Turn and On against the library's.
func turns(t *testing.T, a, b, c api.Spot) {
	t.Helper()
	x, y, z := worths(a), worths(b), worths(c)
	if got, want := spot.Turn(a, b, c), turn(x, y, z); got != want {
		t.Errorf("Turn(%v, %v, %v): %d, not %d", a, b, c, got, want)
	}
	if got, want := spot.On(a, b, c), on(x, y, z); got != want {
		t.Errorf("On(%v, %v, %v): %v", a, b, c, got)
	}
}

// P5.2
func TestTurnAndOnOfEdges(t *testing.T) {
	l := some()
	for _, a := range l {
		for _, b := range l {
			for _, c := range l {
				turns(t, a, b, c)
			}
		}
	}
}

// P5.2, P5.4: what is half way is on the way; what is elsewhere on the line, or just beside it, isn't.
func TestTurnAndOnAlongAWay(t *testing.T) {
	d := dice(4)
	for range 400 {
		a, b := d.spot(3), d.spot(3)
		if spot.Same(a, b) {
			continue
		}
		if mid := spot.Mid(a, b); spot.Turn(a, b, mid) != 0 || !spot.On(a, b, mid) {
			t.Errorf("half way from %v to %v isn't on the way", a, b)
		}
		little := f(false, []uint32{1}, []uint32{0, 0, 0, 0, 0, 1})
		for _, by := range []api.Frac{of(0, 1), of(1, 1), of(1, 2), of(1, 3), of(-1, 3), of(4, 3), little, frac.Neg(little), frac.Sub(of(1, 1), little), frac.Add(of(1, 1), little)} {
			c := spot.Toward(a, b, by)
			turns(t, a, b, c)
			if want := frac.Sign(by) >= 0 && frac.Cmp(by, of(1, 1)) <= 0; spot.On(a, b, c) != want {
				t.Errorf("%v on the way from %v to %v: %v", by, a, b, !want)
			}
			if spot.Turn(a, b, c) != 0 {
				t.Errorf("%v is beside the line from %v to %v", c, a, b)
			}
			turns(t, a, b, api.Spot{X: frac.Add(c.X, little), Y: c.Y})
			turns(t, a, b, api.Spot{X: c.X, Y: frac.Add(c.Y, little)})
			turns(t, a, b, api.Spot{X: c.X, Y: frac.Sub(c.Y, little)})
		}
	}
}

// P5.2
func TestTurnAndOnOfMany(t *testing.T) {
	d := dice(5)
	for range 4000 {
		a, b, c := d.spot(4), d.spot(4), d.spot(4)
		turns(t, a, b, c)
		turns(t, a, api.Spot{X: a.X, Y: b.Y}, c)
		turns(t, a, api.Spot{X: b.X, Y: a.Y}, api.Spot{X: c.X, Y: a.Y})
		turns(t, a, a, c)
		turns(t, a, b, b)
		turns(t, a, b, a)
	}
}

// P5.2: by hand.
func TestTurnAndOnByHand(t *testing.T) {
	third := api.Spot{X: of(1, 3), Y: of(2, 6)}
	for _, c := range []struct {
		a, b, c api.Spot
		turn    int
		on      bool
	}{
		{at(0, 0), at(2, 0), at(1, 1), 1, false}, {at(0, 0), at(2, 0), at(1, -1), -1, false}, {at(2, 0), at(0, 0), at(1, 1), -1, false},
		{at(0, 0), at(2, 0), at(0, 0), 0, true}, {at(0, 0), at(2, 0), at(2, 0), 0, true}, {at(0, 0), at(2, 0), at(1, 0), 0, true},
		{at(0, 0), at(2, 0), at(3, 0), 0, false}, {at(0, 0), at(2, 0), at(-1, 0), 0, false}, {at(0, 5), at(0, 1), at(0, 3), 0, true}, {at(0, 5), at(0, 1), at(0, 6), 0, false},
		{at(0, 5), at(0, 1), at(0, 0), 0, false}, {at(0, 5), at(0, 1), at(1, 3), 1, false},
		{at(0, 0), at(1, 1), third, 0, true}, {at(1, 1), at(0, 0), third, 0, true}, {at(0, 0), at(-1, -1), third, 0, false}, {at(1, 2), at(3, 4), third, -1, false},
		{at(0, 0), at(3, -3), at(2, -1), 1, false}, {at(0, 0), at(3, -3), at(2, -2), 0, true}, {at(0, 0), at(3, -3), at(1, -2), -1, false},
		{at(7, 7), at(7, 7), at(7, 7), 0, true}, {at(7, 7), at(7, 7), at(7, 8), 0, false}, {at(7, 7), at(7, 7), at(8, 7), 0, false}, {third, third, api.Spot{X: of(2, 6), Y: of(3, 9)}, 0, true},
		{api.Spot{}, api.Spot{}, api.Spot{}, 0, true}, {api.Spot{X: of(9, 0)}, at(2, 0), api.Spot{X: of(1, 1), Y: of(-9, 0)}, 0, true},
		{api.Spot{X: of(9, 0), Y: of(4, 0)}, at(2, 2), at(0, 1), 1, false}, {at(2, 2), api.Spot{X: of(9, 0), Y: of(4, 0)}, at(0, 1), -1, false}, {at(2, 2), at(0, 1), api.Spot{X: of(9, 0), Y: of(4, 0)}, 1, false},
	} {
		if got := spot.Turn(c.a, c.b, c.c); got != c.turn {
			t.Errorf("Turn(%v, %v, %v): %d, not %d", c.a, c.b, c.c, got, c.turn)
		}
		if got := spot.On(c.a, c.b, c.c); got != c.on {
			t.Errorf("On(%v, %v, %v): %v", c.a, c.b, c.c, got)
		}
	}
}

// turnsOfGrid holds Turns and Side of points of the grid against the library's.
func turnsOfGrid(t *testing.T, a, b, c api.Point) {
	t.Helper()
	want := turn(ofPoint(a), ofPoint(b), ofPoint(c))
	if got := spot.Turns(a, b, c); got != want {
		t.Errorf("Turns(%v, %v, %v): %d, not %d", a, b, c, got, want)
	}
	if got := spot.Side(a, b, spot.At(c)); got != want {
		t.Errorf("Side(%v, %v, %v): %d, not %d", a, b, c, got, want)
	}
}

// P5.2: of small points, all of them.
func TestTurnsOfSmall(t *testing.T) {
	var l []api.Point
	for x := range 4 {
		for y := range 4 {
			l = append(l, api.Point{X: x - 1, Y: y - 2})
		}
	}
	for _, a := range l {
		for _, b := range l {
			for _, c := range l {
				turnsOfGrid(t, a, b, c)
			}
		}
	}
}

// P5.2: of points as far away as ints go, where no int holds what is reckoned.
func TestTurnsOfFar(t *testing.T) {
	l := ints()
	d := dice(6)
	one := func() api.Point { return api.Point{X: l[d.roll()%uint32(len(l))], Y: l[d.roll()%uint32(len(l))]} }
	for range 20000 {
		turnsOfGrid(t, one(), one(), one())
	}
	for _, far := range l {
		for _, c := range []api.Point{{X: far, Y: far}, {X: far - 1, Y: far}, {X: far, Y: far - 1}} {
			turnsOfGrid(t, api.Point{}, api.Point{X: far, Y: far}, c)
			turnsOfGrid(t, api.Point{X: -far, Y: -far}, api.Point{X: far, Y: far}, c)
			turnsOfGrid(t, api.Point{X: -far, Y: far}, api.Point{X: far, Y: -far}, api.Point{X: -c.X, Y: c.Y})
		}
	}
}

// P5.2
func TestTurnsOfMany(t *testing.T) {
	d := dice(7)
	for range 3000 {
		turnsOfGrid(t, d.point(10), d.point(10), d.point(10))
		turnsOfGrid(t, d.point(api.MaxCoord), d.point(api.MaxCoord), d.point(api.MaxCoord))
		turnsOfGrid(t, d.point(1<<30), d.point(1<<30), d.point(1<<30))
		turnsOfGrid(t, d.point(1<<31), d.point(1<<31), d.point(1<<31))
	}
}

// P5.2: a spot beside a way of the grid.
func TestSide(t *testing.T) {
	d := dice(8)
	side := func(a, b api.Point, c api.Spot) {
		t.Helper()
		if got, want := spot.Side(a, b, c), turn(ofPoint(a), ofPoint(b), worths(c)); got != want {
			t.Errorf("Side(%v, %v, %v): %d, not %d", a, b, c, got, want)
		}
	}
	for _, c := range spots() {
		for range 50 {
			side(d.point(3), d.point(3), c)
			side(d.point(api.MaxCoord), d.point(api.MaxCoord), c)
		}
		for _, far := range ints() {
			side(api.Point{X: far, Y: 1}, api.Point{X: -1, Y: far}, c)
		}
	}
	for range 1000 {
		a, b := d.point(1000), d.point(1000)
		c := spot.Toward(spot.At(a), spot.At(b), d.part(2))
		if got := spot.Side(a, b, c); got != 0 {
			t.Errorf("Side(%v, %v, %v) on the line: %d", a, b, c, got)
		}
		side(a, b, api.Spot{X: c.X, Y: frac.Add(c.Y, of(1, 1<<31))})
		side(a, b, api.Spot{X: frac.Sub(c.X, of(1, 1<<31)), Y: c.Y})
	}
}

// P5.4: going round three points keeps Turn; going back turns it.
func TestTurnRoundAndBack(t *testing.T) {
	d := dice(9)
	for range 3000 {
		a, b, c := d.spot(3), d.spot(3), d.spot(3)
		turn := spot.Turn(a, b, c)
		if spot.Turn(b, c, a) != turn || spot.Turn(c, a, b) != turn {
			t.Errorf("going round %v, %v, %v changes Turn", a, b, c)
		}
		if spot.Turn(c, b, a) != -turn || spot.Turn(b, a, c) != -turn || spot.Turn(a, c, b) != -turn {
			t.Errorf("going back over %v, %v, %v keeps Turn", a, b, c)
		}
		if spot.On(a, b, c) != spot.On(b, a, c) {
			t.Errorf("On by %v, %v, %v hangs on which way one goes", a, b, c)
		}
	}
}

// The chapter's example.
func TestExample(t *testing.T) {
	if got := spot.Turn(at(0, 0), at(2, 0), at(1, 1)); got != 1 {
		t.Errorf("Turn of 0 0, 2 0, 1 1: %d", got)
	}
	is(t, "Mid", spot.Mid(at(0, 0), at(2, 1)), pair{big.NewRat(1, 1), big.NewRat(1, 2)})
}
