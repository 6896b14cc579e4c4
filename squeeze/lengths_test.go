package squeeze_test

import (
	"fmt"
	"math"
	"math/rand"
	"slices"
	"testing"

	"mill/api"
	"mill/squeeze"
)

// costOf gives the sum of count times length.
func costOf(counts, lengths []int) int {
	sum := 0
	for i, c := range counts {
		sum += c * lengths[i]
	}
	return sum
}

// makeCode tells whether lengths make a code, by fractions.
func makeCode(lengths []int) bool {
	sum, many := 0.0, 0
	for _, l := range lengths {
		if l > 0 {
			sum += math.Pow(2, -float64(l))
			many++
		}
	}
	return sum == 1 || many == 1 && sum == 0.5
}

// leastCost gives the least sum that lengths up to most can have, by going down from length to length: at each one some of the nodes become the codes of the counts that are the greatest of those left, and each other node becomes two.
func leastCost(counts []int, most int) int {
	var c []int
	for _, n := range counts {
		if n > 0 {
			c = append(c, n)
		}
	}
	if len(c) < 2 {
		return slices.Max(append(c, 0))
	}
	slices.Sort(c)
	slices.Reverse(c)
	left := make([]int, len(c)+1)
	for i := len(c) - 1; i >= 0; i-- {
		left[i] = left[i+1] + c[i]
	}
	type state struct{ length, done, nodes int }
	known := map[state]int{}
	const never = math.MaxInt / 4
	var least func(s state) int
	least = func(s state) int {
		switch {
		case s.done == len(c):
			if s.nodes == 0 {
				return 0
			}
			return never
		case s.length > most || s.nodes > len(c)-s.done:
			return never
		}
		if n, ok := known[s]; ok {
			return n
		}
		best := never
		for here := 0; here <= s.nodes; here++ {
			done := s.done + here
			best = min(best, left[done]+least(state{s.length + 1, done, 2 * (s.nodes - here)}))
		}
		known[s] = best
		return best
	}
	return left[0] + least(state{1, 0, 2})
}

// bruteCost gives the same by trying all lengths.
func bruteCost(counts []int, most int) int {
	best := math.MaxInt
	lengths := make([]int, len(counts))
	var try func(at int)
	try = func(at int) {
		if at == len(counts) {
			if makeCode(lengths) {
				best = min(best, costOf(counts, lengths))
			}
			return
		}
		lengths[at] = 0
		if counts[at] == 0 {
			try(at + 1)
			return
		}
		for l := 1; l <= most; l++ {
			lengths[at] = l
			try(at + 1)
		}
	}
	try(0)
	return best
}

// rightLengths tells that Lengths answers what P6.2 asks for, with this least sum.
func rightLengths(t *testing.T, counts []int, most, least int) {
	t.Helper()
	what := fmt.Sprintf("Lengths(%v, %d)", counts, most)
	l, e := squeeze.Lengths(counts, most)
	if e != api.OK || len(l) != len(counts) {
		t.Errorf("%s: %v, %d", what, l, e)
		return
	}
	some := 0
	for i, c := range counts {
		if c > 0 {
			some++
		}
		if (c == 0) != (l[i] == 0) || l[i] < 0 || l[i] > most {
			t.Errorf("%s: %v: the length of symbol %d", what, l, i)
		}
	}
	if some > 0 && !makeCode(l) {
		t.Errorf("%s: %v make no code", what, l)
	}
	want(t, what+": the sum", costOf(counts, l), least)
}

// P6.2: of few symbols that come seldom, each way to count them.
func TestLengthsOfFew(t *testing.T) {
	values := []int{0, 1, 2, 3, 7}
	for most := 1; most <= 4; most++ {
		for n := 1; n <= 4; n++ {
			counts := make([]int, n)
			var each func(at, some int)
			each = func(at, some int) {
				switch {
				case at < n:
					for _, v := range values {
						counts[at] = v
						each(at+1, some+min(v, 1))
					}
				case some > 1<<most:
					l, e := squeeze.Lengths(counts, most)
					want(t, "too many: errno", e, api.ErrArg)
					want(t, "too many: lengths", len(l), 0)
				case some == 0:
					rightLengths(t, counts, most, 0)
				default:
					least := bruteCost(counts, most)
					want(t, "the model", leastCost(counts, most), least)
					rightLengths(t, counts, most, least)
				}
			}
			each(0, 0)
		}
	}
}

// P6.2: of many symbols, the counts of which are alike, unlike, or grow so fast that most binds.
func TestLengthsOfMany(t *testing.T) {
	r := rand.New(rand.NewSource(2))
	for i := range 400 {
		counts := make([]int, 1+r.Intn(40))
		if i%80 == 0 {
			counts = make([]int, 100)
		}
		kind := r.Intn(4)
		for i := range counts {
			switch kind {
			case 0:
				counts[i] = r.Intn(5)
			case 1:
				counts[i] = 1 << r.Intn(41)
			case 2:
				counts[i] = 1 + r.Intn(1000)
			case 3:
				counts[i] = 1 << min(i, 40)
			}
		}
		r.Shuffle(len(counts), func(i, k int) { counts[i], counts[k] = counts[k], counts[i] })
		least := 1
		for 1<<least < len(counts) {
			least++
		}
		most := least + r.Intn(api.MaxBits+1-least)
		rightLengths(t, counts, most, leastCost(counts, most))
	}
}

// P6.2: at the limits all is as usual.
func TestLengthsAtTheLimits(t *testing.T) {
	full := make([]int, api.MaxAlphabet)
	for i := range full {
		full[i] = 1 << 40
	}
	rightLengths(t, full, 9, 9*512<<40)
	rightLengths(t, full, api.MaxBits, 9*512<<40)
	rightLengths(t, []int{1 << 40}, 1, 1<<40)
	rightLengths(t, nil, 1, 0)
	rightLengths(t, []int{}, api.MaxBits, 0)
	rightLengths(t, make([]int, api.MaxAlphabet), 1, 0)
	last := make([]int, api.MaxAlphabet)
	last[511] = 3
	rightLengths(t, last, 1, 3)
	last[0] = 9
	rightLengths(t, last, 1, 12)
}

// P6.2: numbers that may not be.
func TestLengthsRefuses(t *testing.T) {
	many := make([]int, 5)
	for i := range many {
		many[i] = 1
	}
	for _, c := range []struct {
		counts []int
		most   int
	}{
		{make([]int, api.MaxAlphabet+1), 15}, {[]int{1, 2}, 0}, {[]int{1, 2}, -1}, {[]int{1, 2}, 16}, {[]int{1, 2}, math.MaxInt}, {[]int{1, 2}, math.MinInt}, {nil, 0}, {nil, 16},
		{[]int{1, -1}, 15}, {[]int{0, math.MinInt}, 15}, {[]int{1<<40 + 1}, 15}, {[]int{0, math.MaxInt}, 15}, {many, 2}, {[]int{1, 0, 1, 0, 1}, 1},
	} {
		if l, e := squeeze.Lengths(c.counts, c.most); l != nil || e != api.ErrArg {
			t.Errorf("Lengths(%v, %d): %v, %d", c.counts, c.most, l, e)
		}
	}
}
