package path_test

import (
	"testing"

	"frisket/api"
	"frisket/path"
)

// P12.1: each kind of step, and what is none.
func TestUses(t *testing.T) {
	for op, want := range map[int]int{api.StepMove: 1, api.StepLine: 1, api.StepQuad: 2, api.StepCube: 3, api.StepClose: 0} {
		if got := path.Uses(op); got != want {
			t.Errorf("Uses(%d): %d, not %d", op, got, want)
		}
	}
	for _, op := range none {
		if got := path.Uses(op); got != -1 {
			t.Errorf("Uses(%d): %d, not -1", op, got)
		}
	}
	for op := -3000; op <= 3000; op++ {
		if got := path.Uses(op); got != uses(op) {
			t.Errorf("Uses(%d): %d, not %d", op, got, uses(op))
		}
	}
}

// The kinds and the limits are those of api.
func TestLimits(t *testing.T) {
	if api.MaxCoord != most || api.MaxSteps != steps {
		t.Errorf("limits %d, %d", api.MaxCoord, api.MaxSteps)
	}
	for i, op := range []int{api.StepMove, api.StepLine, api.StepQuad, api.StepCube, api.StepClose} {
		if op != kinds[i] {
			t.Errorf("kind %d is %d", i, op)
		}
	}
}
