package plan_test

import (
	"math"
	"math/rand"
	"slices"
	"testing"

	"mill/api"
	"mill/plan"
)

// holds holds Check, Cost, Depth and Load against the models.
func holds(t *testing.T, weights []int, fan int, steps []api.Step) {
	t.Helper()
	got, e := tells(t, weights, fan, steps)
	var wanted told
	wantedErr := api.ErrPlan
	if modelIsPlan(len(weights), fan, steps) {
		wanted, wantedErr = modelTold(weights, fan, steps), api.OK
	}
	if got != wanted || e != wantedErr {
		t.Fatalf("weights %v, fan %d, %s: %+v, %d, want %+v, %d", weights, fan, text(steps), got, e, wanted, wantedErr)
	}
}

// P10.2, P10.3: all plans of a few runs, with the fan-ins that take them and those that are too small.
func TestCheckAllPlans(t *testing.T) {
	for many, plans := range []int{0, 1, 1, 4, 29, 336, 5687} {
		if many == 0 {
			continue
		}
		all := allPlans(many, 6)
		want(t, "plans", len(all), plans)
		weights := make([]int, many)
		for i := range weights {
			weights[i] = 1 << (3 * i)
		}
		for _, steps := range all {
			want(t, "Check", plan.Check(weights, 6, steps), api.OK)
			for fan := 2; fan <= 7; fan++ {
				holds(t, weights, fan, steps)
			}
		}
	}
}

// P10.2: all lists of one and of two steps that take up to three numbers, any from -1 on.
func TestCheckAllShortLists(t *testing.T) {
	var ins [][]int
	for long := range 4 {
		ins = append(ins, lists(long, -1, 0, 1, 2, 3, 4)...)
	}
	for many := 1; many <= 4; many++ {
		weights := slices.Repeat([]int{3}, many)
		for fan := 2; fan <= 3; fan++ {
			holds(t, weights, fan, nil)
			for _, in := range ins {
				holds(t, weights, fan, []api.Step{step(many, in...)})
				for _, in2 := range ins {
					holds(t, weights, fan, []api.Step{step(many, in...), step(many+1, in2...)})
				}
			}
		}
	}
}

// changed gives steps with one thing changed, in each place, by each of some ways.
func changed(steps []api.Step) [][]api.Step {
	var all [][]api.Step
	change := func(s int, by func(x *api.Step)) {
		l := slices.Clone(steps)
		l[s].In = slices.Clone(l[s].In)
		by(&l[s])
		all = append(all, l)
	}
	numbers := []int{math.MinInt, -7, -1, 0, 1, 2, 3, 4, 5, 6, 7, 8, 9, 1 << 32, 1<<32 + 2, math.MaxInt}
	for s, x := range steps {
		for _, n := range numbers {
			change(s, func(x *api.Step) { x.Out = n })
			for i := range x.In {
				change(s, func(x *api.Step) { x.In[i] = n })
			}
			for i := range len(x.In) + 1 {
				change(s, func(x *api.Step) { x.In = slices.Insert(x.In, i, n) })
			}
		}
		for i := range x.In {
			change(s, func(x *api.Step) { x.In = slices.Delete(x.In, i, i+1) })
		}
		change(s, func(x *api.Step) { slices.Reverse(x.In) })
		change(s, func(x *api.Step) { x.In = nil })
		all = append(all, slices.Delete(slices.Clone(steps), s, s+1))
		all = append(all, slices.Insert(slices.Clone(steps), s, x))
		all = append(all, slices.Insert(slices.Clone(steps), s, api.Step{}))
		for k := range s {
			l := slices.Clone(steps)
			l[s], l[k] = l[k], l[s]
			all = append(all, l)
			l = slices.Clone(steps)
			l[s].In, l[k].In = l[k].In, l[s].In
			all = append(all, l)
		}
	}
	out := steps[len(steps)-1].Out
	all = append(all, append(slices.Clone(steps), step(out+1, out)), append(slices.Clone(steps), step(out+1, out, out)), append(slices.Clone(steps), step(out+1)))
	return all
}

// P10.2: all plans of a few runs with one thing changed.
func TestCheckChangedPlans(t *testing.T) {
	for many := 1; many <= 5; many++ {
		weights := slices.Repeat([]int{2}, many)
		for _, steps := range allPlans(many, 5) {
			for _, l := range changed(steps) {
				for fan := 2; fan <= 5; fan++ {
					holds(t, weights, fan, l)
				}
			}
		}
	}
}

// P10.2: any plans of many runs, whole and with something changed.
func TestCheckManyRuns(t *testing.T) {
	r := rand.New(rand.NewSource(6))
	for range 300 {
		many, fan := 1+r.Intn(200), 2+r.Intn(63)
		weights := drawn(r, many)
		steps := anyPlan(r, many, fan)
		holds(t, weights, fan, steps)
		for range 40 {
			l := slices.Clone(steps)
			s := r.Intn(len(l))
			l[s].In = slices.Clone(l[s].In)
			i := r.Intn(len(l[s].In))
			switch r.Intn(4) {
			case 0:
				l[s].In[i] += r.Intn(5) - 2
			case 1:
				l[s].Out += r.Intn(3) - 1
			case 2:
				l[s].In = slices.Delete(l[s].In, i, i+1)
			case 3:
				k := r.Intn(len(l))
				l[s].In, l[k].In = l[k].In, l[s].In
			}
			holds(t, weights, fan, l)
		}
	}
}

// anyPlan gives a plan that merges whatever it draws.
func anyPlan(r *rand.Rand, many, fan int) []api.Step {
	if many == 1 {
		return []api.Step{step(1, 0)}
	}
	left := r.Perm(many)
	var steps []api.Step
	for len(left) > 1 {
		r.Shuffle(len(left), func(i, k int) { left[i], left[k] = left[k], left[i] })
		takes := 2 + r.Intn(min(fan, len(left))-1)
		s := step(many+len(steps), left[:takes]...)
		s.In = slices.Sorted(slices.Values(s.In))
		steps = append(steps, s)
		left = append(left[takes:], s.Out)
	}
	return steps
}

// P10.2: a step takes as many runs as the fan-in, and not one more; a single one only where it is alone.
func TestCheckBounds(t *testing.T) {
	for fan := 2; fan <= api.MaxFan; fan++ {
		all := make([]int, fan+1)
		for i := range all {
			all[i] = i
		}
		weights := slices.Repeat([]int{1}, fan+1)
		want(t, "Check of a full step", plan.Check(weights[1:], fan, []api.Step{step(fan, all[:fan]...)}), api.OK)
		want(t, "Check of a step above the fan-in", plan.Check(weights, fan, []api.Step{step(fan+1, all...)}), api.ErrPlan)
		want(t, "Check of a single run", plan.Check([]int{4}, fan, []api.Step{step(1, 0)}), api.OK)
		for _, steps := range [][]api.Step{nil, {}, {{}}, {step(1)}, {step(0, 0)}, {step(2, 0)}, {step(1, 1)}, {step(1, -1)}, {step(1, 0, 0)}, {step(1, 0, 1)},
			{step(1, 0), step(2, 1)}, {step(1, 0), step(2)}, {step(1), step(2, 0)}, {step(1), step(2, 0, 1)}} {
			_, e := tells(t, []int{4}, fan, steps)
			want(t, "Check for a single run", e, api.ErrPlan)
		}
	}
}

// P10.3: as deep and as dear as a plan can be: no sum leaves 64 bits.
func TestDeepest(t *testing.T) {
	weights := slices.Repeat([]int{1 << 30}, api.MaxRuns)
	steps := chain(api.MaxRuns)
	got, e := tells(t, weights, 2, steps)
	want(t, "Check", e, api.OK)
	want(t, "Cost, Depth, Load", got, told{(api.MaxRuns*(api.MaxRuns+1)/2 - 1) << 30, api.MaxRuns - 1, 1})
	got, e = tells(t, weights, 64, steps)
	want(t, "Check", e, api.OK)
	want(t, "Load", got.load, 1.0/32)
	for _, l := range [][]api.Step{steps[1:], steps[:len(steps)-1], append(slices.Clip(steps), step(2*api.MaxRuns-1, 2*api.MaxRuns-2)), append(slices.Clip(steps), steps...)} {
		_, e = tells(t, weights, 2, l)
		want(t, "Check", e, api.ErrPlan)
	}
}

// P10.3: weights of none cost nothing, and are merged all the same.
func TestWeightsOfNone(t *testing.T) {
	got, e := tells(t, make([]int, 9), 3, made(t, make([]int, 9), 3))
	want(t, "Check", e, api.OK)
	want(t, "Cost, Depth, Load", got, told{0, 2, 1})
}

// P10.3: Load is the nearest float64 of the part.
func TestLoad(t *testing.T) {
	for fan := 2; fan <= api.MaxFan; fan++ {
		for many := 2; many <= 130; many++ {
			weights := make([]int, many)
			steps := made(t, weights, fan)
			got, _ := tells(t, weights, fan, steps)
			want(t, "Load", got.load, float64(many+len(steps)-1)/float64(fan*len(steps)))
			if got.load > 1 || got.load <= 0 || (got.load == 1) != ((many-1)%(fan-1) == 0) {
				t.Errorf("%d runs with fan %d: Load %v", many, fan, got.load)
			}
		}
	}
}
