package collate

import (
	"math/bits"
	"math/rand"
	"slices"
	"strconv"
	"testing"

	"mill/api"
)

// counted gives an order of whole lines and the number of its comparisons.
func counted(t *testing.T) (*Order, *int) {
	t.Helper()
	o, e := New(api.Options{Tab: -1, Stable: true})
	if e != api.OK {
		t.Fatalf("New: %d", e)
	}
	n, compare := new(int), o.keys[0].compare
	o.keys[0].compare = func(a, b string) int {
		*n++
		return compare(a, b)
	}
	return o, n
}

// shapes are lists of n records of which each is easy or hard for some way of sorting.
func shapes(n int, r *rand.Rand) (l [][]api.Rec) {
	for _, key := range []func(i int) int{
		func(i int) int { return i },
		func(i int) int { return n - i },
		func(i int) int { return 0 },
		func(i int) int { return i % 2 },
		func(i int) int { return min(i, n-i) },
		func(i int) int { return max(i, n-i) },
		func(i int) int { return i * 7919 % (n + 1) },
		func(i int) int { return (i & 1) * n / 2 * i },
		func(i int) int { return int(bits.Reverse32(uint32(i)) >> 1) },
		func(int) int { return r.Intn(n + 1) },
		func(int) int { return r.Intn(1 << 30) },
		func(int) int { return r.Intn(1 << 30) },
	} {
		recs := make([]api.Rec, n)
		for i := range recs {
			recs[i] = api.Rec{Seq: uint64(i), Line: strconv.Itoa(1<<40 + key(i))}
		}
		l = append(l, recs)
	}
	return l
}

// P5.12: Sort of n records makes at most n times twice the binary digits of n comparisons.
func TestSortComparisons(t *testing.T) {
	o, count := counted(t)
	r := rand.New(rand.NewSource(15))
	sizes := []int{1000, 1023, 1024, 1025, 4097, 30000}
	for n := range 300 {
		sizes = append(sizes, n)
	}
	for _, n := range sizes {
		for i, l := range shapes(n, r) {
			*count = 0
			out := o.Sort(l)
			if most := 2 * n * bits.Len(uint(n)); *count > most {
				t.Errorf("shape %d of %d records: %d comparisons, at most %d", i, n, *count, most)
			}
			if !slices.IsSortedFunc(out, func(a, b api.Rec) int { return o.Compare(a.Line, b.Line) }) {
				t.Errorf("shape %d of %d records isn't sorted", i, n)
			}
		}
	}
}
