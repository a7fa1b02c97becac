package turn

import (
	"frisket/api"
	"frisket/frac"
	"frisket/spot"
)

// sides gathers the turns on both sides of what goes up, or, where it goes neither up nor down, to the right.
type sides struct{ left, right int }

// add adds turns to both sides.
func (s *sides) add(left, right int) {
	s.left += left
	s.right += right
}

// seen answers the turns on both sides, as they are for what goes the same way, or back.
func (s *sides) seen(back bool) (int, int) {
	if back {
		return s.right, s.left
	}
	return s.left, s.right
}

// middle is the place half way on an edge, and the turns just aside of it.
type middle struct {
	place
	sides
	edge     api.Edge
	back     bool // the edge goes down, or to the left
	rowLeft  int  // ways that go up out of this row, or of one below it, go past the left side
	rowRight int  // and past the right side
}

// halfWay answers an edge's middle, with no turns yet.
func halfWay(e api.Edge) *middle {
	rise := frac.Cmp(e.B.Y, e.A.Y)
	m := &middle{place: placed(spot.Mid(e.A, e.B)), edge: e, back: rise < 0}
	m.rowLeft, m.rowRight = m.least.Y, m.least.Y
	if rise == 0 {
		m.back = frac.Cmp(e.B.X, e.A.X) < 0
		m.rowRight = m.most.Y - 1 // the right side is just below, where the row that the middle may be on isn't reached yet
	}
	return m
}

// take adds a way's turns; false: the way goes through the middle, or ends there, so that it has no two sides.
func (m *middle) take(s api.Seg) bool {
	switch m.by(s) {
	case before:
		m.add(climb(s, m.rowLeft), climb(s, m.rowRight))
	case on:
		if s.A != s.B && !m.along(s) {
			return false
		}
		m.add(climb(s, m.rowLeft), 0) // nothing, where the way is level
	}
	return true
}

// along tells whether a way that the middle is on goes along the edge there, on both sides of the middle.
func (m *middle) along(s api.Seg) bool {
	return !m.is(s.A) && !m.is(s.B) && spot.Side(s.A, s.B, m.edge.A) == 0
}
