package whole

import (
	"strings"

	"frisket/api"
	"frisket/nat"
)

const minus = "-"

// Text answers a number in decimal digits.
func Text(a api.Whole) string {
	h := hold(a)
	tell := h.textAbove
	if h.Neg {
		tell = h.textBelow
	}
	return tell()
}

// textAbove answers the text of a number that isn't below 0.
func (h held) textAbove() string { return nat.Text(h.Abs) }

// textBelow answers the text of a number below 0.
func (h held) textBelow() string { return minus + nat.Text(h.Abs) }

// Parse answers the number of a text.
func Parse(s string) (api.Whole, api.Errno) {
	digits, neg := strings.CutPrefix(s, minus)
	abs, e := nat.Parse(digits)
	switch {
	case e != api.OK:
		return api.Whole{}, e
	case neg && len(abs) == 0:
		return api.Whole{}, api.ErrForm
	}
	return own(neg, abs), api.OK
}
