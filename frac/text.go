package frac

import (
	"strings"

	"frisket/api"
	"frisket/nat"
	"frisket/root"
	"frisket/whole"
)

const stroke = "/"

// Text answers a fraction as a text.
func Text(a api.Frac) string {
	r := Reduce(a)
	if isOne(r.D) {
		return whole.Text(r.N)
	}
	return whole.Text(r.N) + stroke + nat.Text(r.D)
}

// Parse answers the fraction of a text.
func Parse(s string) (api.Frac, api.Errno) {
	above, below, parted := strings.Cut(s, stroke)
	n, e := whole.Parse(above)
	switch {
	case e != api.OK:
		return api.Frac{}, api.ErrForm // a part of too many digits, too, is ErrForm here
	case !parted:
		return api.Frac{N: n, D: one()}, api.OK
	}
	d, e := nat.Parse(below)
	if e != api.OK || !tells(n, d) {
		return api.Frac{}, api.ErrForm
	}
	return api.Frac{N: n, D: d}, api.OK
}

// tells tells if n and d are what a fraction's text has on both sides of its stroke.
func tells(n api.Whole, d []uint32) bool {
	return nat.Bits(d) > 1 && isOne(root.Gcd(n.Abs, d))
}
