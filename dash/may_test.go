package dash_test

import (
	"math"
	"testing"

	"frisket/api"
)

// The limits are those of api.
func TestLimits(t *testing.T) {
	if api.MaxCoord != most || api.MaxDashes != dashes || api.MaxLines != lines {
		t.Errorf("limits %d, %d, %d", api.MaxCoord, api.MaxDashes, api.MaxLines)
	}
}

// edges are numbers at the edges of what may be, and far beyond.
var edges = []int{math.MinInt, math.MinInt + 1, -1 << 62, -1 << 32, -most - 1, -most, -2, -1, 0, 1, 2, most - 1, most, most + 1, most + 2, 1 << 24, 1 << 32, 1 << 62, math.MaxInt - 1, math.MaxInt}

// P15.1: no pattern, and as many lengths as there may be, and more.
func TestMayMany(t *testing.T) {
	for many := range 20 {
		pattern := make([]int, many)
		for i := range pattern {
			pattern[i] = i*i + 1
		}
		mayIs(t, pattern, 0, many <= 8)
		mayIs(t, pattern, most, many <= 8)
		mayIs(t, pattern, -1, false)
		mayIs(t, pattern, most+1, false)
	}
	mayIs(t, nil, 0, true)
	mayIs(t, []int{}, most, true)
	mayIs(t, make([]int, 100000), 0, false)
}

// P15.1: each length at the edges, in each place, of patterns of each length.
func TestMayLengths(t *testing.T) {
	for many := 1; many <= 9; many++ {
		for place := range many {
			for _, n := range edges {
				for _, other := range []int{1, 77, most} {
					pattern := make([]int, many)
					for i := range pattern {
						pattern[i] = other
					}
					pattern[place] = n
					mayIs(t, pattern, 5, many <= 8 && n >= 1 && n <= most)
				}
			}
		}
	}
}

// P15.1: each phase at the edges, of what is a pattern and of what is none.
func TestMayPhase(t *testing.T) {
	for _, phase := range edges {
		ok := phase >= 0 && phase <= most
		mayIs(t, nil, phase, ok)
		mayIs(t, []int{1}, phase, ok)
		mayIs(t, []int{3, 2}, phase, ok) // a phase may be longer than the pattern
		mayIs(t, []int{most, most, most, most, most, most, most, most}, phase, ok)
		mayIs(t, []int{0}, phase, false)
		mayIs(t, []int{1, 1, 1, 1, 1, 1, 1, 1, 1}, phase, false)
	}
}

// P15.1: by hand: an odd number of lengths counts twice.
func TestTotalHand(t *testing.T) {
	for _, c := range []struct {
		pattern []int
		want    int
	}{
		{nil, 0},
		{[]int{}, 0},
		{[]int{1}, 2},
		{[]int{5}, 10},
		{[]int{3, 2}, 5},
		{[]int{3, 2, 1}, 12},
		{[]int{4, 4, 4, 4}, 16},
		{[]int{1, 2, 3, 4, 5}, 30},
		{[]int{1, 2, 3, 4, 5, 6}, 21},
		{[]int{1, 2, 3, 4, 5, 6, 7}, 56},
		{[]int{1, 2, 3, 4, 5, 6, 7, 8}, 36},
		{[]int{most}, 16777214},
		{[]int{most, 1}, most + 1},
		{[]int{most, most, most, most, most, most, most}, 117440498},
		{[]int{most, most, most, most, most, most, most, most}, 67108856},
	} {
		totalIs(t, c.pattern, c.want)
	}
}

// P15.1: what is no pattern has no length.
func TestTotalWrong(t *testing.T) {
	for _, n := range edges {
		for _, pattern := range [][]int{{n}, {n, 1}, {1, n}, {1, n, 1}, {n, n}, {1, 1, 1, 1, 1, 1, 1, n}, {n, 1, 1, 1, 1, 1, 1, 1, 1}} {
			totalIs(t, pattern, total(pattern))
			if n < 1 || n > most || len(pattern) > 8 {
				totalIs(t, pattern, 0)
			}
		}
	}
	totalIs(t, []int{1, 1, 1, 1, 1, 1, 1, 1, 1}, 0)
	totalIs(t, []int{1, 1, 1, 1, 1, 1, 1, 1, 1, 1}, 0)
}

// P15.1: any patterns, against the chapter's words.
func TestTotalDice(t *testing.T) {
	d := dice(31)
	for range 5000 {
		pattern := d.pattern(d.roll(10), []int{2, 300, most, most + 1}[d.roll(4)])
		mayIs(t, pattern, d.roll(9), may(pattern, 0))
		totalIs(t, pattern, total(pattern))
	}
}
