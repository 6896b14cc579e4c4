package plan_test

import (
	"cmp"
	"slices"

	"mill/api"
)

// modelMake says P10.1 once more: what is left is put in order anew for each step.
func modelMake(weights []int, fan int) []api.Step {
	if len(weights) == 1 {
		return []api.Step{step(1, 0)}
	}
	type run struct{ number, weight int }
	var left []run
	for i, w := range weights {
		left = append(left, run{i, w})
	}
	var steps []api.Step
	takes, out := 2+(len(weights)-2)%(fan-1), len(weights)
	for len(left) > 1 {
		slices.SortFunc(left, func(a, b run) int {
			return cmp.Or(cmp.Compare(a.weight, b.weight), cmp.Compare(a.number, b.number))
		})
		s, whole := step(out), run{out, 0}
		for _, r := range left[:takes] {
			s.In = append(s.In, r.number)
			whole.weight += r.weight
		}
		slices.Sort(s.In)
		steps = append(steps, s)
		left = append(left[takes:], whole)
		takes = fan
		out++
	}
	return steps
}

// modelIsPlan says the chapter's words on a plan once more, one by one.
func modelIsPlan(many, fan int, steps []api.Step) bool {
	if len(steps) == 0 {
		return false
	}
	stands := map[int]int{}
	for s, x := range steps {
		if x.Out != many+s || len(x.In) < 1 || len(x.In) > fan {
			return false
		}
		if len(x.In) == 1 && (many != 1 || len(steps) != 1) {
			return false
		}
		for i, r := range x.In {
			if i > 0 && x.In[i-1] >= r || r >= x.Out {
				return false
			}
			stands[r]++
		}
	}
	for r := range many + len(steps) - 1 {
		if stands[r] != 1 {
			return false
		}
		delete(stands, r)
	}
	return len(stands) == 0
}

// modelTold says what a plan costs and how deep and how full it is by following each run on its way up to the whole.
func modelTold(weights []int, fan int, steps []api.Step) told {
	into := map[int]int{}
	taken := 0
	for _, s := range steps {
		for _, r := range s.In {
			into[r] = s.Out
			taken++
		}
	}
	var l told
	for i, w := range weights {
		depth := 0
		for r, ok := into[i]; ok; r, ok = into[r] {
			depth++
		}
		l.cost += depth * w
		l.depth = max(l.depth, depth)
	}
	l.load = float64(taken) / float64(len(steps)*fan)
	return l
}

// allPlans gives all plans for so many runs with a fan-in.
func allPlans(many, fan int) [][]api.Step {
	if many == 1 {
		return [][]api.Step{{step(1, 0)}}
	}
	var plans [][]api.Step
	var goOn func(left []int, steps []api.Step)
	goOn = func(left []int, steps []api.Step) {
		if len(left) == 1 {
			plans = append(plans, slices.Clone(steps))
			return
		}
		for set := range 1 << len(left) {
			s := step(many + len(steps))
			var others []int
			for i, r := range left {
				if set>>i&1 == 1 {
					s.In = append(s.In, r)
				} else {
					others = append(others, r)
				}
			}
			if len(s.In) >= 2 && len(s.In) <= fan {
				goOn(append(others, s.Out), append(slices.Clip(steps), s))
			}
		}
	}
	first := make([]int, many)
	for i := range first {
		first[i] = i
	}
	goOn(first, nil)
	return plans
}

// least gives what the cheapest plan costs, worked out for each set of the runs: what it costs to have it as one run, and as at most so many.
func least(weights []int, fan int) int {
	if len(weights) == 1 {
		return weights[0]
	}
	all := 1 << len(weights)
	as := make([][]int, fan+1)
	for k := range as {
		as[k] = make([]int, all)
	}
	for set := 1; set < all; set++ {
		lowest := set & -set
		if set == lowest {
			continue
		}
		weight := 0
		for i, w := range weights {
			weight += w * (set >> i & 1)
		}
		split := func(k int) int {
			best := 1 << 62
			for part := (set - 1) & set; part > 0; part = (part - 1) & set {
				if part&lowest != 0 {
					best = min(best, as[1][part]+as[k-1][set&^part])
				}
			}
			return best
		}
		as[1][set] = weight + split(fan)
		for k := 2; k <= fan; k++ {
			as[k][set] = min(as[1][set], split(k))
		}
	}
	return as[1][all-1]
}
