package spot

import (
	"cmp"

	"frisket/api"
	"frisket/frac"
	"frisket/nat"
	"frisket/whole"
)

// near is how far from 0 a point's parts may lie, so that what is reckoned of them stays below 2^63.
const near = 1 << 30

// Turn answers on which side of a way a spot is.
func Turn(a, b, c api.Spot) int {
	a, b, c = hold(a), hold(b), hold(c)
	// Each gap is short of the Ds of both its ends. Those of a are missing on both sides alike, those of b and c are made up for crosswise.
	left := product(gap(a.X, b.X), gap(a.Y, c.Y), b.Y.D, c.X.D)
	right := product(gap(a.Y, b.Y), gap(a.X, c.X), b.X.D, c.Y.D)
	return whole.Cmp(left, right)
}

// Turns answers on which side of a way a point is.
func Turns(a, b, c api.Point) int {
	if !isNear(a) || !isNear(b) || !isNear(c) {
		return Turn(At(a), At(b), At(c))
	}
	ax, ay := int64(a.X), int64(a.Y)
	left := (int64(b.X) - ax) * (int64(c.Y) - ay)
	right := (int64(b.Y) - ay) * (int64(c.X) - ax)
	return cmp.Compare(left, right)
}

// Side answers on which side of a way of the grid a spot is.
func Side(a, b api.Point, c api.Spot) int {
	return Turn(At(a), At(b), c)
}

// On tells whether a spot is on a way, its ends counted.
func On(a, b, c api.Spot) bool {
	// On a line Cmp goes from one end to the other; it is soon asked, and tells most spots off.
	return Cmp(a, c)*Cmp(c, b) >= 0 && Turn(a, b, c) == 0
}

// isNear tells if a point lies near enough to 0.
func isNear(p api.Point) bool {
	return -near <= p.X && p.X <= near && -near <= p.Y && p.Y <= near
}

// hold answers a spot no D of which is 0. It may hold words that were handed in.
func hold(a api.Spot) api.Spot {
	return api.Spot{X: counted(a.X), Y: counted(a.Y)}
}

// counted answers a fraction as it counts.
func counted(a api.Frac) api.Frac {
	if nat.Bits(a.D) == 0 {
		return frac.Int(0)
	}
	return a
}

// gap answers what leads from a to b, times the Ds of both.
func gap(a, b api.Frac) api.Whole {
	return whole.Sub(times(b.N, a.D), times(a.N, b.D))
}

// product answers the product of two whole numbers and two natural ones.
func product(m, n api.Whole, d, e []uint32) api.Whole {
	return times(times(whole.Mul(m, n), d), e)
}

// times answers a whole number times a natural one, perhaps not in new words.
func times(n api.Whole, d []uint32) api.Whole {
	if nat.Bits(d) == 1 { // points of the grid are many
		return n
	}
	return whole.Mul(n, api.Whole{Abs: d})
}
