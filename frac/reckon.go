package frac

import (
	"frisket/api"
	"frisket/nat"
	"frisket/root"
	"frisket/whole"
)

// Neg answers the fraction on the other side of 0.
func Neg(a api.Frac) api.Frac {
	return ofOne(ratio.neg, a)
}

// Half answers half of a fraction.
func Half(a api.Frac) api.Frac {
	return ofOne(ratio.half, a)
}

// Add answers a sum.
func Add(a, b api.Frac) api.Frac {
	return ofTwo(ratio.plus, a, b)
}

// Sub answers a difference.
func Sub(a, b api.Frac) api.Frac {
	return ofTwo(ratio.minus, a, b)
}

// Mul answers a product.
func Mul(a, b api.Frac) api.Frac {
	return ofTwo(ratio.times, a, b)
}

// Div answers a quotient.
func Div(a, b api.Frac) (api.Frac, api.Errno) {
	return quotient(hold(a), hold(b))
}

// Sum answers the sum of all.
func Sum(l ...api.Frac) api.Frac {
	switch len(l) {
	case 0:
		return Int(0)
	case 1:
		return Reduce(l[0])
	}
	// By halves: else what grows long would be gone through once for each one that is added.
	half := len(l) / 2
	return Add(Sum(l[:half]...), Sum(l[half:]...))
}

// ofOne answers what is reckoned of a fraction.
func ofOne(reckon func(ratio) ratio, a api.Frac) api.Frac {
	return reckon(hold(a)).reduced()
}

// ofTwo answers what is reckoned of two fractions.
func ofTwo(reckon func(r, s ratio) ratio, a, b api.Frac) api.Frac {
	return reckon(hold(a), hold(b)).reduced()
}

// quotient answers r by s.
func quotient(r, s ratio) (api.Frac, api.Errno) {
	if whole.Sign(s.N) == 0 {
		return api.Frac{}, api.ErrZero
	}
	return r.times(s.turned()).reduced(), api.OK
}

// neg answers what is as far from 0 on the other side.
func (r ratio) neg() ratio {
	return ratio{N: whole.Neg(r.N), D: r.D}
}

// half answers half of r.
func (r ratio) half() ratio {
	return ratio{N: r.N, D: nat.Shift(r.D, 1)}
}

// plus answers r and s.
func (r ratio) plus(s ratio) ratio {
	if nat.Cmp(r.D, s.D) == 0 {
		return ratio{N: whole.Add(r.N, s.N), D: r.D}
	}
	// What both D have in common stays there once: else sums of what lies on the same lines would grow too fast.
	mine, others := root.Reduce(r.D, s.D)
	n := whole.Add(whole.Mul(r.N, size(others)), whole.Mul(s.N, size(mine)))
	return ratio{N: n, D: nat.Mul(r.D, others)}
}

// minus answers r without s.
func (r ratio) minus(s ratio) ratio {
	return r.plus(s.neg())
}

// times answers r times s.
func (r ratio) times(s ratio) ratio {
	return ratio{N: whole.Mul(r.N, s.N), D: nat.Mul(r.D, s.D)}
}

// turned answers what times r is 1; r isn't 0.
func (r ratio) turned() ratio {
	return ratio{N: api.Whole{Neg: r.N.Neg, Abs: r.D}, D: r.N.Abs}
}
