package plan_test

import (
	"math"
	"math/rand"
	"slices"
	"testing"

	"mill/api"
	"mill/plan"
)

// likeModel holds Make against the model, and what is told of its plan.
func likeModel(t *testing.T, weights []int, fan int) {
	t.Helper()
	steps, e := plan.Make(weights, fan)
	wanted := text(modelMake(weights, fan))
	if e != api.OK || text(steps) != wanted {
		t.Fatalf("Make of %v with fan %d: %s, %d, want %s", weights, fan, text(steps), e, wanted)
	}
	if got, e := tells(t, weights, fan, steps); e != api.OK || got != modelTold(weights, fan, steps) {
		t.Fatalf("weights %v, fan %d: %+v, %d, want %+v", weights, fan, got, e, modelTold(weights, fan, steps))
	}
}

// P10.1, P10.3: all short lists of small weights, which are full of ties, between made runs too.
func TestMakeShortLists(t *testing.T) {
	for many := 1; many <= 6; many++ {
		for _, weights := range lists(many, 0, 1, 2, 3) {
			for fan := 2; fan <= many+1; fan++ {
				likeModel(t, weights, fan)
			}
		}
	}
	for _, weights := range lists(10, 0, 1) {
		for fan := 2; fan <= 5; fan++ {
			likeModel(t, weights, fan)
		}
	}
}

// P10.1, P10.3: long lists, each fan-in.
func TestMakeLongLists(t *testing.T) {
	r := rand.New(rand.NewSource(1))
	for fan := 2; fan <= api.MaxFan; fan++ {
		for many := 1; many <= 2*api.MaxFan+3; many++ {
			likeModel(t, drawn(r, many), fan)
		}
		likeModel(t, drawn(r, 300+r.Intn(300)), fan)
	}
}

// P10.1: of equal weights the lower numbers are merged first, made runs last, and those of no weight like all others.
func TestMakeTies(t *testing.T) {
	for _, c := range []struct {
		weights []int
		fan     int
		steps   string
	}{
		{[]int{0}, 2, "0>1"}, {[]int{1 << 30}, 64, "0>1"},
		{[]int{0, 0}, 2, "0+1>2"}, {[]int{9, 0}, 64, "0+1>2"},
		{[]int{1, 1, 2, 2}, 2, "0+1>4 2+3>5 4+5>6"},
		{[]int{2, 1, 1, 2}, 2, "1+2>4 0+3>5 4+5>6"},
		{[]int{2, 1, 1}, 2, "1+2>3 0+3>4"},
		{[]int{0, 0, 0, 0}, 2, "0+1>4 2+3>5 4+5>6"},
		{[]int{0, 1, 0, 1}, 2, "0+2>4 1+4>5 3+5>6"},
		{[]int{5, 4, 3, 2, 1}, 4, "3+4>5 0+1+2+5>6"},
		{[]int{3, 3, 3, 3, 3}, 3, "0+1+2>5 3+4+5>6"},
		{[]int{3, 3, 3, 3, 3, 3}, 3, "0+1>6 2+3+4>7 5+6+7>8"},
	} {
		want(t, "Make", text(made(t, c.weights, c.fan)), c.steps)
	}
}

// P10.1, P10.3: a fan-in and weights that may not be, each bound and what lies beyond it; the fan-in is looked at first.
func TestMakeRefusals(t *testing.T) {
	fine, greatest := []int{3, 0, 2}, slices.Repeat([]int{1 << 30}, api.MaxRuns)
	bad := [][]int{nil, {}, {-1}, {1<<30 + 1}, {math.MinInt}, {math.MaxInt}, {1 << 32}, {0, -1}, {-1, 0}, {1, 2, 1<<30 + 1, 3},
		make([]int, api.MaxRuns+1), make([]int, 1<<20), append(slices.Clip(greatest), 0), append(slices.Clip(greatest[1:]), 1<<30+1)}
	refused := func(weights []int, fan int, wanted api.Errno) {
		t.Helper()
		steps, e := plan.Make(weights, fan)
		if steps != nil || e != wanted {
			t.Errorf("Make of %d weights %v with fan %d: %d steps, %d, want %d", len(weights), few(weights), fan, len(steps), e, wanted)
		}
		for _, steps := range [][]api.Step{nil, {step(1, 0)}, {step(3, 0, 1, 2)}} {
			_, e := tells(t, weights, fan, steps)
			want(t, "Check", e, wanted)
		}
	}
	for _, fan := range []int{math.MinInt, -64, -2, -1, 0, 1, 65, 66, 1<<32 + 2, math.MaxInt} {
		refused(fine, fan, api.ErrArg)
		for _, weights := range bad {
			refused(weights, fan, api.ErrArg)
		}
	}
	for fan := 2; fan <= api.MaxFan; fan++ {
		for _, weights := range bad[:len(bad)-4] {
			refused(weights, fan, api.ErrSizes)
		}
		made(t, fine, fan)
	}
	for _, weights := range bad {
		refused(weights, 2, api.ErrSizes)
		refused(weights, 64, api.ErrSizes)
	}
}

// P10.1, P10.5: as many runs as may be, as heavy as may be.
func TestMakeGreatest(t *testing.T) {
	weights := slices.Repeat([]int{1 << 30}, api.MaxRuns)
	for fan, depth := range map[int]int{2: 16, 4: 8, 16: 4, 40: 4, 41: 3, 64: 3} {
		steps := made(t, weights, fan)
		got, _ := tells(t, weights, fan, steps)
		want(t, "Depth", got.depth, depth)
		want(t, "Steps", len(steps), (api.MaxRuns-1+fan-2)/(fan-1))
		want(t, "Load", got.load, float64(api.MaxRuns+len(steps)-1)/float64(fan*len(steps)))
		// A power of 2, of 4 and of 16: all steps are full, and each record goes through all the layers.
		if fan <= 16 {
			want(t, "Cost", got.cost, depth<<46)
		}
	}
}

// P10.4: no plan of all that there are costs less.
func TestCheapestOfAll(t *testing.T) {
	r := rand.New(rand.NewSource(2))
	for many := 1; many <= 6; many++ {
		for fan := 2; fan <= many+1; fan++ {
			plans := allPlans(many, fan)
			for range 6 {
				weights := drawn(r, many)
				cheapest := math.MaxInt
				for _, steps := range plans {
					cheapest = min(cheapest, costs(t, weights, fan, steps))
				}
				want(t, "Cost", costs(t, weights, fan, made(t, weights, fan)), cheapest)
				want(t, "the model's least cost", least(weights, fan), cheapest)
			}
		}
	}
}

// P10.4: nor of more runs, where what the cheapest costs is worked out from set to set.
func TestCheapestOfMore(t *testing.T) {
	r := rand.New(rand.NewSource(3))
	for many := 7; many <= 10; many++ {
		for fan := 2; fan <= 6; fan++ {
			for range 12 {
				weights := drawn(r, many)
				if got, wanted := costs(t, weights, fan, made(t, weights, fan)), least(weights, fan); got != wanted {
					t.Errorf("weights %v, fan %d: Cost %d, want %d", weights, fan, got, wanted)
				}
			}
		}
	}
}

// P10.5: how many steps there are, and how deep it goes for weights that are all the same.
func TestHowManySteps(t *testing.T) {
	r := rand.New(rand.NewSource(4))
	for fan := 2; fan <= api.MaxFan; fan++ {
		for many := 2; many <= 400; many++ {
			// Rounded up by counting: each full step leaves fan - 1 runs fewer.
			steps, depth := 0, 0
			for left := many; left > 1; left -= fan - 1 {
				steps++
			}
			for reach := 1; reach < many; reach *= fan {
				depth++
			}
			want(t, "steps", len(made(t, drawn(r, many), fan)), steps)
			weights := slices.Repeat([]int{1 + r.Intn(1<<30)}, many)
			got, _ := tells(t, weights, fan, made(t, weights, fan))
			if got.depth != depth {
				t.Errorf("%d runs with fan %d: Depth %d, want %d", many, fan, got.depth, depth)
			}
		}
	}
}

// P10.5: around each power of each fan-in.
func TestDepthAtThePowers(t *testing.T) {
	for fan := 2; fan <= api.MaxFan; fan++ {
		for depth, many := 1, fan; many < 20000; depth, many = depth+1, many*fan {
			for more, wanted := range []int{depth, depth + 1} {
				weights := slices.Repeat([]int{5}, many+more)
				got, _ := tells(t, weights, fan, made(t, weights, fan))
				want(t, "Depth", got.depth, wanted)
			}
		}
	}
}

// P10.5: no plan has fewer steps.
func TestFewestSteps(t *testing.T) {
	for many := 2; many <= 6; many++ {
		weights := slices.Repeat([]int{1}, many)
		for fan := 2; fan <= many+1; fan++ {
			fewest := math.MaxInt
			for _, steps := range allPlans(many, fan) {
				fewest = min(fewest, len(steps))
			}
			want(t, "steps", len(made(t, weights, fan)), fewest)
		}
	}
}

// P10.6: each record goes through at least one step, just one if all runs fit into it; and a greater fan-in never costs more.
func TestCostAndFan(t *testing.T) {
	r := rand.New(rand.NewSource(5))
	for range 400 {
		weights := drawn(r, 1+r.Intn(150))
		before := math.MaxInt
		for fan := 2; fan <= api.MaxFan; fan++ {
			cost := costs(t, weights, fan, made(t, weights, fan))
			if cost > before || cost < sum(weights) {
				t.Errorf("weights %v, fan %d: Cost %d, with fan %d it is %d", weights, fan, cost, fan-1, before)
			}
			if len(weights) <= fan {
				want(t, "Cost of a single step", cost, sum(weights))
			}
			before = cost
		}
	}
}
