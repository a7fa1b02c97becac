package stroke_test

import (
	"testing"

	"frisket/api"
	"frisket/stroke"
)

// mayIs holds what May answers against what is wanted.
func mayIs(t *testing.T, p api.Pen, want bool) {
	t.Helper()
	was := copied(p)
	if got := stroke.May(p); got != want {
		t.Errorf("May(%v): %t", was, got)
	}
	kept(t, p, was)
}

// P16.1: each part at its limits, on both sides of them.
func TestMay(t *testing.T) {
	fine := api.Pen{Width: 2, Limit: 256}
	for _, c := range []struct {
		change func(p *api.Pen, n int)
		least  int
		most   int
	}{
		{func(p *api.Pen, n int) { p.Width = n }, 2, 65536},
		{func(p *api.Pen, n int) { p.Cap = n }, 0, 2},
		{func(p *api.Pen, n int) { p.Join = n }, 0, 2},
		{func(p *api.Pen, n int) { p.Limit = n }, 256, 8192},
		{func(p *api.Pen, n int) { p.Phase = n }, 0, 8388607},
		{func(p *api.Pen, n int) { p.Dash = []int{n} }, 1, 8388607},
		{func(p *api.Pen, n int) { p.Dash = []int{1, n, 1} }, 1, 8388607},
		{func(p *api.Pen, n int) { p.Dash, p.Phase = []int{1, 1, 1, 1, 1, 1, 1, n}, 7 }, 1, 8388607},
		{func(p *api.Pen, n int) {
			if p.Dash = nil; n >= 0 && n < 100 {
				for range n {
					p.Dash = append(p.Dash, 3)
				}
			} else {
				p.Dash = []int{0}
			}
		}, 0, 8},
	} {
		for _, n := range []int{c.least, c.least + 1, (c.least + c.most) / 2, c.most - 1, c.most} {
			p := fine
			c.change(&p, n)
			mayIs(t, p, c.least <= n && n <= c.most)
		}
		for _, n := range append([]int{c.least - 2, c.least - 1, c.most + 1, c.most + 2}, far...) {
			p := fine
			c.change(&p, n)
			mayIs(t, p, false)
		}
	}
	mayIs(t, api.Pen{}, false)
	mayIs(t, api.Pen{Width: 65536, Cap: 2, Join: 2, Limit: 8192, Dash: []int{8388607, 8388607, 8388607, 8388607, 8388607, 8388607, 8388607, 8388607}, Phase: 8388607}, true)
}

// P16.1: whatever else a pen is.
func TestMayWrong(t *testing.T) {
	for _, p := range wrongPens() {
		mayIs(t, p, false)
		if may(p) {
			t.Errorf("%v may be", p)
		}
	}
	for _, width := range []int{2, 3, 65535, 65536} {
		for _, p := range pens(width) {
			mayIs(t, p, true)
			p.Dash = []int{1, 2, 3}
			mayIs(t, p, true)
			p.Dash = []int{1, 2, 0}
			mayIs(t, p, false)
		}
	}
}
