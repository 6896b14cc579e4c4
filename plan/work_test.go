package plan_test

import (
	"math"
	"math/rand"
	"slices"
	"sync"
	"testing"
	"time"

	"mill/api"
	"mill/plan"
)

// P10.7: what is handed in stays as it is, spare room included, and no answer shares memory with it or with another one.
func TestNothingIsShared(t *testing.T) {
	r := rand.New(rand.NewSource(7))
	for range 200 {
		plain, fan := drawn(r, 1+r.Intn(200)), 2+r.Intn(63)
		weights := roomy(plain, -5)
		one, other := made(t, weights, fan), made(t, weights, fan)
		apart(t, "Make", slices.Concat([]memory{ofList(weights)}, ofSteps(one), ofSteps(other))...)
		steps := roomy(one, step(-5))
		for i, s := range one {
			steps[i].In = roomy(s.In, -5)
		}
		kept := slices.Clone(steps)
		first, _ := tells(t, weights, fan, steps)
		again, _ := tells(t, weights, fan, steps)
		want(t, "the same plan, asked again", again, first)
		untouched(t, "weights", weights, plain, -5)
		for i, s := range kept {
			want(t, "Out", steps[i].Out, one[i].Out)
			want(t, "In is the same list", ofList(steps[i].In), ofList(s.In))
			untouched(t, "In", s.In, other[i].In, -5)
		}
		for _, s := range steps[len(steps):cap(steps)] {
			want(t, "spare room", text([]api.Step{s}), ">-5")
		}
	}
}

// P10.7: nothing is kept: a plan goes on being one, whatever becomes of the weights and of another plan.
func TestNothingIsKept(t *testing.T) {
	weights := []int{4, 1, 1, 1, 9}
	one, other := made(t, weights, 3), made(t, weights, 3)
	for i := range weights {
		weights[i] = 0
	}
	for _, s := range other {
		clear(s.In[:cap(s.In)])
	}
	clear(other)
	want(t, "Make", text(one), "1+2+3>5 0+4+5>6")
	want(t, "Make again", text(made(t, []int{4, 1, 1, 1, 9}, 3)), "1+2+3>5 0+4+5>6")
}

// P10.7: no call panics or fails to end, at any arguments.
func TestAnyArguments(t *testing.T) {
	r := rand.New(rand.NewSource(8))
	numbers := []int{math.MinInt, -1 << 32, -2, -1, 0, 1, 2, 3, 4, 5, 63, 64, 65, 1 << 16, 1<<16 + 1, 1 << 30, 1<<30 + 1, 1 << 32, math.MaxInt}
	number := func(usual int) int {
		if r.Intn(8) == 0 {
			return numbers[r.Intn(len(numbers))]
		}
		return r.Intn(usual)
	}
	for range 20000 {
		weights := make([]int, r.Intn(6))
		for i := range weights {
			weights[i] = number(9)
		}
		steps := make([]api.Step, r.Intn(6))
		for s := range steps {
			in := make([]int, r.Intn(5))
			for i := range in {
				in[i] = number(10)
			}
			steps[s] = step(len(weights)+s, in...)
			if r.Intn(9) == 0 {
				steps[s].Out = number(10)
			}
		}
		fan := number(8)
		plan.Make(weights, fan)
		tells(t, weights, fan, steps)
	}
}

// P10.7: more steps, and longer ones, than any plan has are refused.
func TestFarTooMuch(t *testing.T) {
	long := make([]int, 1<<22)
	for i := range long {
		long[i] = i
	}
	for _, weights := range [][]int{{1}, {1, 2}, make([]int, api.MaxRuns)} {
		for _, steps := range [][]api.Step{make([]api.Step, 1<<21), {step(len(weights), long...)}, {step(1<<22, long...)}, slices.Repeat([]api.Step{step(len(weights), long...)}, 1000)} {
			_, e := tells(t, weights, 64, steps)
			want(t, "Check", e, api.ErrPlan)
		}
	}
}

// P10.7, R5: each answer hangs on the arguments alone, also where several goroutines ask at once.
func TestAnswersAreTheSame(t *testing.T) {
	weights := drawn(rand.New(rand.NewSource(9)), 500)
	wanted := made(t, weights, 7)
	sums, _ := tells(t, weights, 7, wanted)
	var group sync.WaitGroup
	for range 8 {
		group.Go(func() {
			for range 20 {
				steps, e := plan.Make(weights, 7)
				if e != api.OK || text(steps) != text(wanted) {
					t.Error("two plans")
				}
				if l, e := tells(t, weights, 7, wanted); l != sums || e != api.OK {
					t.Error("two answers")
				}
			}
		})
	}
	group.Wait()
}

// growth tells how many times as long one thing takes as another, at best. It measures again as long as that is above a limit, as the machine may be busy with something else.
func growth(short, long func(), limit float64) float64 {
	const never = time.Duration(math.MaxInt64)
	best := [2]time.Duration{never, never}
	times := math.Inf(1)
	for round := 0; round < 12 && (round < 3 || times > limit); round++ {
		for i, do := range []func(){short, long} {
			start := time.Now()
			do()
			best[i] = min(best[i], time.Since(start))
		}
		times = float64(best[1]) / float64(best[0])
	}
	return times
}

// P10.7: of 32 times as many runs the work is not much more than 32 times as much; were it as the square, it would be 1024 times.
func TestWork(t *testing.T) {
	r := rand.New(rand.NewSource(10))
	const many, limit = api.MaxRuns, 250
	alike := slices.Repeat([]int{7}, many)
	falling, drawn := make([]int, many), make([]int, many)
	for i := range many {
		falling[i] = many - i
		drawn[i] = r.Intn(1 << 30)
	}
	for _, weights := range [][]int{alike, falling, drawn} {
		for _, fan := range []int{2, 3, 64} {
			of := func(n int) func() { return func() { made(t, weights[:n], fan) } }
			if x := growth(of(many/32), of(many), limit); x > limit {
				t.Errorf("Make with fan %d: %.0f times the work", fan, x)
			}
		}
	}
	of := func(n int) func() {
		steps := chain(n)
		return func() { tells(t, alike[:n], 64, steps) }
	}
	if x := growth(of(many/32), of(many), limit); x > limit {
		t.Errorf("Check, Cost, Depth, Load: %.0f times the work", x)
	}
}
