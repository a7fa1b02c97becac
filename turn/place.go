package turn

import (
	"frisket/api"
	"frisket/frac"
	"frisket/spot"
	"frisket/whole"
)

// beyond is further from 0 than ways that may be.
const beyond = api.MaxCoord + 1

// kind is how a spot lies by a way.
type kind int

// How a spot lies by a way.
const (
	past   kind = iota // on the other side, or off its height
	before             // on the way's side of the lesser Xs, or off its height
	on                 // on the way
)

// place is a spot, and the rows and columns of the grid between which it lies: by them most ways are told, as its words take longer.
type place struct {
	p           api.Spot
	least, most api.Point
}

// placed answers a spot's place.
func placed(p api.Spot) place {
	return place{
		p:     p,
		least: api.Point{X: floor(p.X), Y: floor(p.Y)},
		most:  api.Point{X: ceil(p.X), Y: ceil(p.Y)},
	}
}

// by answers how a place lies by a way.
func (at place) by(s api.Seg) kind {
	left, right := min(s.A.X, s.B.X), max(s.A.X, s.B.X)
	low, high := min(s.A.Y, s.B.Y), max(s.A.Y, s.B.Y)
	switch {
	case at.least.X < left:
		return before
	case at.most.X > right || at.least.Y < low || at.most.Y > high:
		return past
	}
	return at.within(s)
}

// within answers how a place in a way's box lies by the way.
func (at place) within(s api.Seg) kind {
	side := spot.Side(s.A, s.B, at.p)
	switch {
	case side == 0:
		return on
	case (side > 0) == (s.B.Y > s.A.Y): // on the left of what goes up, or on the right of what goes down
		return before
	}
	return past
}

// is tells whether a place is a point of the grid.
func (at place) is(p api.Point) bool {
	return at.least == p && at.most == p
}

// floor answers the greatest whole number that isn't above.
func floor(a api.Frac) int {
	return near(frac.Floor(a))
}

// ceil answers the least whole number that isn't below.
func ceil(a api.Frac) int {
	return near(whole.Neg(frac.Floor(frac.Neg(a))))
}

// near answers a number, or one that is just beyond all ways, where that is beyond them, too: it may be no int.
func near(a api.Whole) int {
	n, ok := whole.Int(a)
	if !ok {
		n = whole.Sign(a) * beyond
	}
	return max(-beyond, min(n, beyond))
}
