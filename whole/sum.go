package whole

import (
	"frisket/api"
	"frisket/nat"
)

// Neg answers the number on the other side of 0.
func Neg(a api.Whole) api.Whole {
	return Make(!a.Neg, a.Abs)
}

// Add answers a sum.
func Add(a, b api.Whole) api.Whole {
	return plus(a.Neg, a.Abs, b.Neg, b.Abs)
}

// Sub answers a difference.
func Sub(a, b api.Whole) api.Whole {
	return plus(a.Neg, a.Abs, !b.Neg, b.Abs)
}

// Mul answers a product.
func Mul(a, b api.Whole) api.Whole {
	return own(a.Neg != b.Neg, nat.Mul(a.Abs, b.Abs))
}

// Sum answers the sum of all.
func Sum(l ...api.Whole) api.Whole {
	switch len(l) {
	case 0:
		return api.Whole{}
	case 1:
		return Make(l[0].Neg, l[0].Abs)
	}
	// By halves: else a long number ahead of many would be gone through once for each of them.
	half := len(l) / 2
	return Add(Sum(l[:half]...), Sum(l[half:]...))
}

// plus answers the sum of two numbers, by their signs and sizes; the sign of a size of 0 may be either.
func plus(aNeg bool, a []uint32, bNeg bool, b []uint32) api.Whole {
	if aNeg == bNeg {
		return own(aNeg, nat.Add(a, b))
	}
	if left, ok := nat.Sub(a, b); ok {
		return own(aNeg, left)
	}
	left, _ := nat.Sub(b, a)
	return own(bNeg, left)
}

// Div answers how often a number is in another one, and what is left: never below 0.
func Div(a, b api.Whole) (api.Whole, api.Whole, bool) {
	often, left, ok := nat.Div(a.Abs, b.Abs)
	if !ok {
		return api.Whole{}, api.Whole{}, false
	}
	if a.Neg && len(left) > 0 { // one time more goes below a, and what is left counts up from there
		often = nat.Add(often, nat.Of(1))
		left, _ = nat.Sub(b.Abs, left)
	}
	return own(a.Neg != b.Neg, often), own(false, left), true
}
