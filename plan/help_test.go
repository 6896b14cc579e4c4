package plan_test

import (
	"cmp"
	"math/rand"
	"slices"
	"strconv"
	"strings"
	"testing"
	"unsafe"

	"mill/api"
	"mill/plan"
)

// want compares two values, and tells what they are of.
func want[T comparable](t *testing.T, what string, got, wanted T) {
	t.Helper()
	if got != wanted {
		t.Errorf("%s: %+v, want %+v", what, got, wanted)
	}
}

// text writes steps down: 0+1>3 2+3>4.
func text(steps []api.Step) string {
	var l []string
	for _, s := range steps {
		var in []string
		for _, r := range s.In {
			in = append(in, strconv.Itoa(r))
		}
		l = append(l, strings.Join(in, "+")+">"+strconv.Itoa(s.Out))
	}
	return strings.Join(l, " ")
}

// step makes a step.
func step(out int, in ...int) api.Step { return api.Step{In: in, Out: out} }

// made gives Make's plan, which must be one.
func made(t *testing.T, weights []int, fan int) []api.Step {
	t.Helper()
	steps, e := plan.Make(weights, fan)
	if e != api.OK {
		t.Fatalf("Make of %d weights with fan %d: %d", len(weights), fan, e)
	}
	want(t, "Check of what Make gives", plan.Check(weights, fan, steps), api.OK)
	return steps
}

// told is what Cost, Depth and Load tell of steps.
type told struct {
	cost, depth int
	load        float64
}

// tells asks Cost, Depth and Load, which must all answer the same error as Check, and beside one zero.
func tells(t *testing.T, weights []int, fan int, steps []api.Step) (told, api.Errno) {
	t.Helper()
	e := plan.Check(weights, fan, steps)
	cost, e1 := plan.Cost(weights, fan, steps)
	depth, e2 := plan.Depth(weights, fan, steps)
	load, e3 := plan.Load(weights, fan, steps)
	l := told{cost, depth, load}
	if e1 != e || e2 != e || e3 != e || e != api.OK && l != (told{}) {
		t.Errorf("weights %v, fan %d, steps %v: Check %d, Cost %d, %d, Depth %d, %d, Load %v, %d", few(weights), fan, text(few(steps)), e, cost, e1, depth, e2, load, e3)
	}
	return l, e
}

// costs gives the cost of a plan.
func costs(t *testing.T, weights []int, fan int, steps []api.Step) int {
	t.Helper()
	n, e := plan.Cost(weights, fan, steps)
	want(t, "Cost", e, api.OK)
	return n
}

// few gives the first few items of a list.
func few[T any](l []T) []T { return l[:min(len(l), 12)] }

// sum adds up.
func sum(l []int) int {
	n := 0
	for _, x := range l {
		n += x
	}
	return n
}

// lists gives all lists of so many of these numbers.
func lists(long int, of ...int) [][]int {
	l := [][]int{nil}
	for range long {
		var longer [][]int
		for _, head := range l {
			for _, x := range of {
				longer = append(longer, append(slices.Clip(head), x))
			}
		}
		l = longer
	}
	return l
}

// drawn gives so many weights, of one of some shapes: all alike, of few sizes, any, falling, each like the sum of those ahead of it, as great as may be.
func drawn(r *rand.Rand, many int) []int {
	l := make([]int, many)
	shape := r.Intn(6)
	for i := range l {
		switch shape {
		case 0:
			l[i] = 7
		case 1:
			l[i] = r.Intn(4)
		case 2:
			l[i] = r.Intn(1 << 30)
		case 3:
			l[i] = many - i
		case 4:
			l[i] = 1 << (i % 31)
		case 5:
			l[i] = 1<<30 - r.Intn(2)
		}
	}
	if shape == 4 {
		r.Shuffle(many, func(i, k int) { l[i], l[k] = l[k], l[i] })
	}
	return l
}

// chain gives the plan that merges the runs one by one into one.
func chain(many int) []api.Step {
	l := []api.Step{step(many, 0, 1)}
	for r := 2; r < many; r++ {
		l = append(l, step(many+r-1, r, many+r-2))
	}
	return l
}

// memory is where a list lies, spare room included: from its first byte up to, but without, its last.
type memory struct{ from, to uintptr }

func ofList[T any](l []T) memory {
	var one T
	from := uintptr(unsafe.Pointer(unsafe.SliceData(l)))
	return memory{from, from + uintptr(cap(l))*unsafe.Sizeof(one)}
}

// ofSteps are the lists of steps.
func ofSteps(steps []api.Step) []memory {
	l := []memory{ofList(steps)}
	for _, s := range steps {
		l = append(l, ofList(s.In))
	}
	return l
}

// apart tells that no two of these share memory.
func apart(t *testing.T, what string, l ...memory) {
	t.Helper()
	l = slices.DeleteFunc(slices.Clone(l), func(m memory) bool { return m.from == m.to })
	slices.SortFunc(l, func(a, b memory) int { return cmp.Compare(a.from, b.from) })
	for i := 1; i < len(l); i++ {
		if l[i-1].to > l[i].from {
			t.Errorf("%s: two lists share memory", what)
		}
	}
}

// roomy gives a copy of a list with spare room behind it that holds a mark.
func roomy[T any](l []T, mark T) []T {
	r := make([]T, len(l), len(l)+5)
	copy(r, l)
	spare := r[len(l):cap(r)]
	for i := range spare {
		spare[i] = mark
	}
	return r
}

// untouched tells that a list that roomy gave is as it was.
func untouched[T comparable](t *testing.T, what string, got, l []T, mark T) {
	t.Helper()
	for i, x := range got[:cap(got)] {
		if i < len(l) && x != l[i] || i >= len(l) && x != mark {
			t.Errorf("%s: item %d has been changed", what, i)
			return
		}
	}
}
