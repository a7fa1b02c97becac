package bez_test

import (
	"slices"
	"testing"

	"frisket/api"
	"frisket/bez"
)

// P11.1: the chapter's example, and others by hand.
func TestPiecesHand(t *testing.T) {
	for _, c := range []struct {
		l    []api.Point
		want int
	}{
		{[]api.Point{{X: 0, Y: 0}, {X: 64, Y: 0}, {X: 64, Y: 64}}, 2},
		{[]api.Point{{X: 0, Y: 0}, {X: 65, Y: 0}, {X: 65, Y: 64}}, 3},
		{[]api.Point{{X: 0, Y: 0}, {X: 64, Y: 0}, {X: 64, Y: 65}}, 3},
		{[]api.Point{{X: 0, Y: 0}, {X: 10, Y: 0}, {X: 20, Y: 0}}, 1},                         // straight, and even
		{[]api.Point{{X: 0, Y: 0}, {X: 100, Y: 0}, {X: 100, Y: 0}}, 3},                       // straight, but uneven: 100
		{[]api.Point{{X: 0, Y: 0}, {X: 100, Y: 200}, {X: 200, Y: 400}, {X: 300, Y: 600}}, 1}, // straight, and even
		{[]api.Point{{X: 0, Y: 0}, {X: 0, Y: 256}, {X: 256, Y: 256}, {X: 256, Y: 0}}, 4},     // 256
		{[]api.Point{{X: 0, Y: 0}, {X: 256, Y: 256}, {X: 0, Y: 256}, {X: 256, Y: 0}}, 6},     // 512
		{[]api.Point{{X: 7, Y: 9}, {X: 7, Y: 9}, {X: 7, Y: 9}, {X: 7, Y: 9}}, 1},
	} {
		parted(t, c.l, c.want)
		parted(t, turned(c.l), c.want)
		slices.Reverse(c.l)
		parted(t, c.l, c.want)
	}
}

// P11.1: the limits are those of api.
func TestLimits(t *testing.T) {
	if api.MaxCoord != most || api.MaxPieces != pieces {
		t.Errorf("limits %d, %d", api.MaxCoord, api.MaxPieces)
	}
}

// P11.1: fewer than three points, be they as far from one another as they may, are one piece.
func TestPiecesFew(t *testing.T) {
	if got := bez.Pieces(); got != 1 {
		t.Errorf("Pieces(): %d", got)
	}
	parted(t, nil, 1)
	parted(t, []api.Point{}, 1)
	for _, x := range ends {
		for _, y := range ends {
			p := api.Point{X: x, Y: y}
			want := 0
			if fits(p) {
				want = 1
			}
			parted(t, []api.Point{p}, want)
			parted(t, []api.Point{p, {X: -most, Y: most}}, want)
			parted(t, []api.Point{{X: most, Y: most}, p}, want)
		}
	}
}

// P11.1: each number of pieces holds just so much: on both sides of each, by X and by Y, above 0 and below it, by each of three points.
func TestPiecesEdges(t *testing.T) {
	for n := 1; n <= pieces; n++ {
		for by := -2; by <= 2; by++ {
			d := 16*n*n + by
			want := n
			if by > 0 && n < pieces {
				want = n + 1
			}
			for _, s := range []int{d, -d} {
				for _, l := range [][]api.Point{
					{{X: s}, {}, {}}, {{}, {}, {X: s}}, {{X: s + 100}, {X: 50}, {}}, {{X: s - 1, Y: 5}, {X: 10, Y: 6}, {X: 21, Y: 7}},
				} {
					parted(t, l, want)
					parted(t, turned(l), want)
				}
				if s%2 == 0 {
					parted(t, []api.Point{{}, {X: s / 2}, {}}, want)
					parted(t, []api.Point{{}, {Y: s / 2}, {}}, want)
				}
			}
		}
	}
}

// P11.1: all sizes up to beyond the last one that a number of pieces holds.
func TestPiecesSizes(t *testing.T) {
	for d := range 20000 {
		want := enough(d)
		parted(t, []api.Point{{X: -d}, {}, {}}, want)
		parted(t, []api.Point{{}, {}, {Y: d}}, want)
	}
	for _, l := range [][]api.Point{
		{{X: most}, {X: -most}, {X: most}}, {{Y: -most}, {Y: most}, {Y: -most}}, {{X: -most, Y: most}, {X: most, Y: -most}, {X: -most, Y: most}, {X: most, Y: -most}}, {{}, {}, {X: most}}, {{X: 1 << 20}, {}, {}},
	} {
		parted(t, l, pieces)
	}
}

// P11.1: what counts is the greatest of all sizes: neither what they come to together, nor the first one, nor the last one.
func TestPiecesGreatest(t *testing.T) {
	parted(t, []api.Point{{X: 16, Y: 16}, {}, {}}, 1)
	parted(t, []api.Point{{X: 12, Y: 12}, {}, {}}, 1)
	parted(t, []api.Point{{X: -16, Y: 16}, {}, {}}, 1)
	parted(t, []api.Point{{X: 16}, {}, {}, {X: 16}}, 1)
	parted(t, []api.Point{{X: 16}, {}, {}, {Y: -16}}, 1)
	for places := 3; places <= 7; places++ {
		for at := range places {
			for _, d := range []int{8, 9, 16, 17, 32, 33, 64, 65, 4000, -8, -9, -16, -17, -32, -33, -4000} {
				l := make([]api.Point, places)
				l[at].X = d
				parted(t, l, count(l))
				l[at] = api.Point{X: 3, Y: d}
				parted(t, l, count(l))
				size := max(d, -d)
				if want := enough(size); at == 0 || at == places-1 { // it counts once
					parted(t, l, want)
				} else { // twice, in the middle of three
					parted(t, l, enough(2*size))
				}
			}
		}
	}
}

// P11.1: rows of points of any length go through all of it.
func TestPiecesLong(t *testing.T) {
	l := make([]api.Point, 100000)
	for i := range l {
		l[i] = api.Point{X: i * 8, Y: -i * 80}
	}
	parted(t, l, 1)
	l[99999].X += 17
	parted(t, l, 2)
	l[50000].Y += 200
	parted(t, l, 5)
	l[99999].Y = most + 1
	parted(t, l, 0)
}

// P11.1: a point that may not be, in each place, whatever the others are.
func TestPiecesWrong(t *testing.T) {
	for _, p := range wrongPoints() {
		for many := range 6 {
			for at := range many + 1 {
				l := make([]api.Point, many)
				parted(t, slices.Insert(slices.Clone(l), at, p), 0)
				for i := range l {
					l[i] = api.Point{X: i * 1000 * i, Y: most}
				}
				parted(t, slices.Insert(l, at, p), 0)
			}
		}
		parted(t, []api.Point{p, p, p}, 0)
	}
}

// P11.1: any rows, against the chapter's words.
func TestPiecesDice(t *testing.T) {
	d := dice(41)
	var had [pieces + 1]int
	for range 100000 {
		l := d.points(d.roll(7), []int{4, 20, 300, 1500, 5000, most, most + 1}[d.roll(7)])
		had[count(l)]++
		parted(t, l, count(l))
	}
	for n, times := range had {
		if times == 0 {
			t.Errorf("no rows of %d pieces came", n)
		}
	}
}

// R3: Pieces leaves what it is handed, and what lies behind it, as it was.
func TestPiecesLeaves(t *testing.T) {
	all := []api.Point{{X: 1, Y: 2}, {X: 300, Y: 4}, {X: -5, Y: 600}, {X: 7, Y: 8}, {X: 9, Y: 10}}
	was := slices.Clone(all)
	bez.Pieces(all[:3]...)
	if !slices.Equal(all, was) {
		t.Errorf("Pieces changed %v to %v", was, all)
	}
}
