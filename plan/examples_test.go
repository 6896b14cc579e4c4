package plan_test

import (
	"testing"

	"mill/api"
	"mill/plan"
)

// makes tells that Make gives these steps, of this cost, depth and load.
func makes(t *testing.T, weights []int, fan int, steps string, wanted told) {
	t.Helper()
	l := made(t, weights, fan)
	want(t, "Make", text(l), steps)
	got, e := tells(t, weights, fan, l)
	want(t, "Check", e, api.OK)
	want(t, "Cost, Depth, Load", got, wanted)
}

// Examples 1 to 5 of the chapter, and what 6 says of the load of 3.
func TestExamples1To5(t *testing.T) {
	makes(t, []int{5}, 2, "0>1", told{5, 1, 0.5})
	makes(t, []int{1, 2, 3}, 2, "0+1>3 2+3>4", told{9, 2, 1})
	makes(t, []int{1, 1, 1, 1}, 3, "0+1>4 2+3+4>5", told{6, 2, 5.0 / 6})
	makes(t, []int{4, 1, 1, 1, 9}, 3, "1+2+3>5 0+4+5>6", told{19, 2, 1})
	makes(t, []int{9, 8, 7, 6, 5, 4, 3, 2, 1, 0}, 64, "0+1+2+3+4+5+6+7+8+9>10", told{45, 1, 10.0 / 64})
}

// Example 6.
func TestExample6(t *testing.T) {
	want(t, "Check", plan.Check([]int{7, 7, 7}, 2, []api.Step{step(3, 0, 1)}), api.ErrPlan)
	want(t, "Check", plan.Check([]int{7}, 2, []api.Step{step(1, 0)}), api.OK)
	want(t, "Check", plan.Check([]int{7, 7}, 2, []api.Step{step(2, 0), step(3, 1, 2)}), api.ErrPlan)
}

// Example 7.
func TestExample7(t *testing.T) {
	for _, c := range []struct {
		weights []int
		fan     int
		wanted  api.Errno
	}{{[]int{}, 2, api.ErrSizes}, {[]int{-1}, 1, api.ErrArg}, {[]int{3, 3}, 65, api.ErrArg}} {
		steps, e := plan.Make(c.weights, c.fan)
		want(t, "Make", e, c.wanted)
		want(t, "Make", steps == nil, true)
	}
}
