package path_test

import (
	"testing"

	"frisket/api"
	"frisket/path"
)

// P12.2: what each kind of step costs, by hand.
func TestCountHand(t *testing.T) {
	o := pt(0, 0)
	for _, x := range []struct {
		l    []api.Step
		want int
	}{
		{nil, 0},
		{[]api.Step{}, 0},
		{[]api.Step{move(0, 0)}, 0},
		{[]api.Step{move(0, 0), move(9, 9), move(0, 0)}, 0},
		{[]api.Step{move(0, 0), shut()}, 1},
		{[]api.Step{move(0, 0), line(5, 5)}, 1},
		{[]api.Step{move(0, 0), line(0, 0)}, 1}, // though it leads nowhere
		{[]api.Step{move(0, 0), line(5, 0), line(5, 5), shut()}, 3},
		{[]api.Step{move(0, 0), line(5, 0), shut(), move(5, 5), line(6, 6), shut()}, 4},
		{[]api.Step{move(0, 0), quad(o, o)}, 1},
		{[]api.Step{move(0, 0), cube(o, o, o)}, 1},
		{[]api.Step{move(0, 0), quad(pt(64, 0), pt(64, 64))}, 2},
		{[]api.Step{move(0, 0), quad(pt(64, 0), pt(64, 64)), shut()}, 3},
		{[]api.Step{move(0, 0), cube(pt(0, 256), pt(256, 256), pt(256, 0))}, 4},
		{[]api.Step{move(0, 0), cube(pt(256, 256), pt(0, 256), pt(256, 0)), line(0, 0)}, 7},
		{[]api.Step{move(-most, 0), quad(pt(most, 0), pt(-most, 0)), cube(pt(most, 0), pt(-most, 0), pt(most, 0))}, 64},
	} {
		counts(t, x.l, x.want, api.OK)
	}
}

// P12.2: a curve begins where one is, by each kind of step ahead of it: 0 0 is even with what comes, and no other point is.
func TestCountFrom(t *testing.T) {
	even, odd := quad(pt(500, 0), pt(1000, 0)), cube(pt(500, 0), pt(1000, 0), pt(1500, 0))
	o := pt(0, 0)
	for _, x := range []struct {
		ahead []api.Step
		cost  int
	}{
		{[]api.Step{move(0, 0)}, 0},
		{[]api.Step{move(800, 9), move(0, 0)}, 0},
		{[]api.Step{move(800, 9), line(0, 0)}, 1},
		{[]api.Step{move(0, 0), line(800, 9), line(0, 0)}, 2},
		{[]api.Step{move(0, 16), quad(pt(0, 8), o)}, 1},
		{[]api.Step{move(0, 12), cube(pt(0, 8), pt(0, 4), o)}, 1},
		{[]api.Step{move(800, 9), line(5, 5), shut(), move(0, 0)}, 2},
	} {
		counts(t, append(append([]api.Step{}, x.ahead...), even), x.cost+1, api.OK)
		counts(t, append(append([]api.Step{}, x.ahead...), odd), x.cost+1, api.OK)
	}
	counts(t, []api.Step{move(1000, 0), even}, 8, api.OK)                             // 1000
	counts(t, []api.Step{move(0, 0), line(0, 1000), odd}, 9, api.OK)                  // 1 and 1000
	counts(t, []api.Step{move(0, 0), even, even}, 9, api.OK)                          // 1, and 1000: it leads back first
	counts(t, []api.Step{move(0, 0), odd, quad(pt(1500, 0), pt(1500, 0))}, 2, api.OK) // one is where the curve ended
}

// P12.2: the greatest path costs what it costs.
func TestCountGreatest(t *testing.T) {
	l := []api.Step{move(0, 0)}
	for i := range steps - 1 {
		s := most - 2*most*(i%2)
		l = append(l, quad(pt(-s, s), pt(s, -s)))
	}
	both(t, l)
	n, e := path.Count(l)
	if e != api.OK || n != 32*(steps-1) {
		t.Error(n, e)
	}
}

// P12.2: what a path without steps to nowhere costs is the ways of its lines, where nothing falls together.
func TestCountLines(t *testing.T) {
	d := dice(61)
	for range 2000 {
		l := d.path(d.roll(12), most)
		n, e := path.Count(l)
		lines, e2 := path.Trace(l)
		sum := 0
		for _, x := range lines {
			sum += len(x.Pts) - 1
			if x.Closed {
				sum++
			}
		}
		empty := 0 // lines of one point that are closed
		for i, s := range l {
			if s.Op == 5 && l[i-1].Op == 1 {
				empty++
			}
		}
		if e != e2 || n != sum+empty {
			t.Fatalf("Count(%v): %d, not %d and %d", l, n, sum, empty)
		}
	}
}
