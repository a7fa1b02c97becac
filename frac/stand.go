package frac

import (
	"frisket/api"
	"frisket/nat"
	"frisket/whole"
)

// Cmp answers how two fractions stand.
func Cmp(a, b api.Frac) int {
	r, s := hold(a), hold(b)
	if nat.Cmp(r.D, s.D) == 0 {
		return whole.Cmp(r.N, s.N)
	}
	return whole.Cmp(whole.Mul(r.N, size(s.D)), whole.Mul(s.N, size(r.D)))
}

// Sign answers a fraction's sign.
func Sign(a api.Frac) int {
	return whole.Sign(hold(a).N)
}

// Floor answers the greatest whole number that isn't above.
func Floor(a api.Frac) api.Whole {
	return hold(a).floor()
}

// Round answers the nearest whole number, the upper one of two.
func Round(a api.Frac) api.Whole {
	return hold(a).plus(ratio(Int(1)).half()).floor()
}

// floor answers how often 1 is in r.
func (r ratio) floor() api.Whole {
	often, _, _ := whole.Div(r.N, size(r.D))
	return often
}

// Whole answers the int that a fraction is.
func Whole(a api.Frac) (int, bool) {
	r := hold(a)
	often, left, _ := whole.Div(r.N, size(r.D))
	if whole.Sign(left) != 0 {
		return 0, false
	}
	return whole.Int(often)
}
