package turn_test

import (
	"math"
	"slices"
	"testing"

	"frisket/api"
	"frisket/turn"
)

// rules are all rules, and such as are none.
var rules = []int{api.RuleTurns, api.RuleOdd, 2, 3, -1, -2, 256, 257, 1 << 32, 1<<32 + 1, math.MinInt, math.MaxInt}

// P19.3: each rule by hand.
func TestInByHand(t *testing.T) {
	for _, c := range []struct {
		n     int
		turns bool
		odd   bool
	}{
		{0, false, false}, {1, true, true}, {-1, true, true}, {2, true, false}, {-2, true, false}, {3, true, true}, {-3, true, true}, {4, true, false}, {-7, true, true}, {256, true, false},
		{1 << 32, true, false}, {1<<32 + 1, true, true}, {-1 << 32, true, false},
		{math.MinInt, true, false}, {math.MinInt + 1, true, true}, {math.MaxInt, true, true}, {math.MaxInt - 1, true, false},
	} {
		for _, rule := range rules {
			want := rule == 0 && c.turns || rule == 1 && c.odd
			if got := turn.In(c.n, rule); got != want {
				t.Errorf("In(%d, %d): %t", c.n, rule, got)
			}
		}
	}
}

// P19.3: all numbers of turns around 0.
func TestInOfSmall(t *testing.T) {
	odd := false
	for n := range 1000 {
		for _, k := range []int{n, -n} {
			if turn.In(k, api.RuleTurns) != (n > 0) || turn.In(k, api.RuleOdd) != odd {
				t.Errorf("In(%d)", k)
			}
		}
		odd = !odd
	}
}

// termIs holds what Term answers against what is wanted, by no rule at all as well, and of the term's other side.
func termIs(t *testing.T, c api.Term, p api.Spot, want, ok bool) {
	t.Helper()
	was := slices.Clone(c.Segs)
	if in, told := turn.Term(c, p); in != want || told != ok {
		t.Errorf("Term(%v, %s): %t, %t, not %t, %t", c, text(worths(p)), in, told, want, ok)
	}
	c.Out = !c.Out
	if in, told := turn.Term(c, p); in != (ok && !want) || told != ok {
		t.Errorf("Term(%v, %s): %t, %t, not %t, %t", c, text(worths(p)), in, told, ok && !want, ok)
	}
	unchanged(t, "Term", c.Segs, was, api.Edge{}, api.Edge{})
}

// P19.3: by hand: each rule, within and not, and on a way.
func TestTermByHand(t *testing.T) {
	twice := append(slices.Clone(square), square...)
	for _, c := range []struct {
		l          []api.Seg
		p          api.Spot
		turns, odd bool
		ok         bool
	}{
		{nil, at(0, 0, 1), false, false, true},
		{square, at(2, 2, 1), true, true, true},
		{square, at(-2, 2, 1), false, false, true},
		{square, at(4, 2, 1), false, false, false},
		{square, at(0, 0, 1), false, false, false},
		{each(square, back), at(1, 1, 2), true, true, true},
		{twice, at(2, 2, 1), true, false, true},
		{each(twice, back), at(2, 2, 1), true, false, true},
		{append(twice, square...), at(2, 2, 1), true, true, true},
		{append(twice, each(square, back)...), at(2, 2, 1), true, true, true},
		{append(each(square, back), square...), at(2, 2, 1), false, false, true},
		{append(each(square, back), square...), at(4, 1, 3), false, false, true},
		{[]api.Seg{way(3, 0, 3, 4)}, at(0, 1, 1), true, true, true},
		{[]api.Seg{way(3, 0, 3, 4)}, at(4, 1, 1), false, false, true},
		{[]api.Seg{way(3, 4, 3, 0)}, at(0, 1, 1), true, true, true},
		{[]api.Seg{way(3, 4, 3, 4)}, at(3, 4, 1), false, false, false},
		{[]api.Seg{way(3, 4, 3, most+1)}, at(3, 4, 1), false, false, true},
		{append(slices.Clone(square), way(2, 2, most+1, 2)), at(2, 2, 1), true, true, true},
	} {
		for _, rule := range rules {
			want := rule == 0 && c.turns || rule == 1 && c.odd
			termIs(t, api.Term{Segs: c.l, Rule: rule}, c.p, want, c.ok)
			termIs(t, api.Term{Segs: c.l, Rule: rule, Out: true}, c.p, c.ok && !want, c.ok)
		}
	}
}

// P19.3: ways of all sizes, and spots that have to do with them.
func TestTermOfAny(t *testing.T) {
	d := dice(4)
	for i := range 3000 {
		n := []int{3, 6, 70000, most}[i%4]
		l := d.loops(1+d.roll(4), n)
		if i%2 == 0 {
			l = d.ways(d.roll(9), n)
		}
		p := d.spot(l, n)
		many, ok := turns(l, worths(p))
		for _, rule := range rules[:3] {
			in := rule == 0 && many != 0 || rule == 1 && many&1 == 1
			termIs(t, api.Term{Segs: l, Rule: rule}, p, ok && in, ok)
		}
	}
}

// P19.3: spots beyond the limits.
func TestTermOfHuge(t *testing.T) {
	page := loop(pt(-most, -most), pt(most, -most), pt(most, most), pt(-most, most))
	for _, p := range hugeSpots() {
		many, ok := turns(page, worths(p))
		termIs(t, api.Term{Segs: page}, p, many == 1, ok)
		termIs(t, api.Term{Segs: page, Rule: api.RuleOdd, Out: true}, p, ok && many == 0, ok)
	}
}
