package runs_test

import (
	"math/bits"
	"math/rand"
	"slices"
	"strings"
	"testing"

	"mill/api"
	"mill/runs"
)

// heap makes a heap.
func heap[T any](t *testing.T, less func(a, b T) bool) *runs.Heap[T] {
	t.Helper()
	h, e := runs.NewHeap(less)
	if h == nil || e != api.OK {
		t.Fatalf("NewHeap: %d", e)
	}
	empty(t, h)
	return h
}

// empty tells that there is nothing in a heap.
func empty[T any](t *testing.T, h *runs.Heap[T]) {
	t.Helper()
	want(t, "Len", h.Len(), 0)
	if _, ok := h.Peek(); ok {
		t.Error("Peek: there is something")
	}
	if _, ok := h.Pop(); ok {
		t.Error("Pop: there is something")
	}
}

// card is something that less sees by its rank alone.
type card struct{ rank, number int }

func lower(a, b card) bool { return a.rank < b.rank }

// pile is a second heap, a plain list: the first of those that no other is less than goes out.
type pile []card

func (p pile) first() int {
	first := 0
	for i, c := range p {
		if lower(c, p[first]) {
			first = i
		}
	}
	return first
}

// takes tells that Peek and Pop give what the pile gives.
func (p *pile) takes(t *testing.T, h *runs.Heap[card]) {
	t.Helper()
	wanted, there := card{}, len(*p) > 0
	if there {
		i := p.first()
		wanted = (*p)[i]
		*p = slices.Delete(*p, i, i+1)
	}
	want(t, "Len", h.Len() > 0, there)
	for what, call := range map[string]func() (card, bool){"Peek": h.Peek, "Peek again": h.Peek} {
		c, ok := call()
		want(t, what, c, wanted)
		want(t, what, ok, there)
	}
	c, ok := h.Pop()
	want(t, "Pop", c, wanted)
	want(t, "Pop", ok, there)
	want(t, "Len", h.Len(), len(*p))
}

// P8.1: without less there is no heap.
func TestNewHeap(t *testing.T) {
	h, e := runs.NewHeap[int](nil)
	if h != nil || e != api.ErrArg {
		t.Errorf("NewHeap(nil): %v, %d", h, e)
	}
	heap(t, lower)
	heap(t, func(a, b error) bool { return false })
}

// P8.2: all short walks over ranks that are pushed (0, 1, 2) and over Pops (-).
func TestHeapShortWalks(t *testing.T) {
	for _, s := range texts("012-", 7) {
		h, p := heap(t, lower), pile{}
		for i, step := range s {
			if step == '-' {
				p.takes(t, h)
				continue
			}
			c := card{int(step - '0'), i}
			h.Push(c)
			p = append(p, c)
		}
		for len(p) > 0 {
			p.takes(t, h)
		}
		p.takes(t, h)
		if t.Failed() {
			t.Fatalf("walk %q", s)
		}
	}
}

// P8.2: long walks, with few and with many ranks, that rise and fall.
func TestHeapLongWalks(t *testing.T) {
	r := rand.New(rand.NewSource(1))
	for _, ranks := range []int{1, 2, 5, 1000} {
		for _, tilt := range []int{3, 5, 7} {
			h, p := heap(t, lower), pile{}
			for i := range 2000 {
				if r.Intn(10) < tilt {
					c := card{r.Intn(ranks), i}
					h.Push(c)
					p = append(p, c)
				} else {
					p.takes(t, h)
				}
			}
			for len(p) > 0 && !t.Failed() {
				p.takes(t, h)
			}
			empty(t, h)
		}
	}
}

// P8.2: of things of other types too; those of which none is less come as they were pushed, zero values among them.
func TestHeapOfAnything(t *testing.T) {
	words := heap(t, func(a, b string) bool { return len(a) < len(b) })
	for _, w := range strings.Fields("ccc a bb dd b aa eee") {
		words.Push(w)
	}
	words.Push("")
	var out []string
	for words.Len() > 0 {
		w, _ := words.Pop()
		out = append(out, w)
	}
	same(t, "words", out, []string{"", "a", "b", "bb", "dd", "aa", "ccc", "eee"})
	points := heap(t, func(a, b *int) bool { return false })
	x, y := 1, 2
	for _, p := range []*int{&x, nil, &y, nil} {
		points.Push(p)
	}
	for _, p := range []*int{&x, nil, &y, nil} {
		got, ok := points.Pop()
		want(t, "pointer", got, p)
		want(t, "pointer", ok, true)
	}
	lists := heap(t, func(a, b []int) bool { return a[0] > b[0] })
	lists.Push([]int{1})
	lists.Push([]int{2, 7})
	l, _ := lists.Peek()
	same(t, "list", l, []int{2, 7})
}

// P8.2: of a less that is no order each Pop gives one of those that are there.
func TestHeapWithoutAnOrder(t *testing.T) {
	r := rand.New(rand.NewSource(2))
	for name, less := range map[string]func(a, b int) bool{
		"always":   func(a, b int) bool { return true },
		"unlike":   func(a, b int) bool { return a != b },
		"in rings": func(a, b int) bool { return (b-a+30)%3 == 1 },
		"at will":  func(a, b int) bool { return r.Intn(2) == 0 },
	} {
		h := heap(t, less)
		there := map[int]bool{}
		for i := range 3000 {
			if r.Intn(5) < 3 {
				h.Push(i)
				there[i] = true
			}
			if x, _ := h.Peek(); len(there) > 0 && !there[x] {
				t.Fatalf("%s: Peek: %d is not there", name, x)
			}
			if r.Intn(2) == 0 {
				x, ok := h.Pop()
				if ok != (len(there) > 0) || ok && !there[x] {
					t.Fatalf("%s: Pop: %d, %v", name, x, ok)
				}
				delete(there, x)
			}
			want(t, name, h.Len(), len(there))
		}
	}
}

// P8.3: how often less is called, at each length and for pushes that rise, fall, are alike, or are drawn.
func TestHeapCounts(t *testing.T) {
	calls := 0
	r := rand.New(rand.NewSource(3))
	counted := func(a, b int) bool {
		calls++
		return a < b
	}
	for name, next := range map[string]func(i int) int{
		"rising": func(i int) int { return i }, "falling": func(i int) int { return -i },
		"alike": func(i int) int { return 0 }, "few": func(i int) int { return r.Intn(3) }, "drawn": func(i int) int { return r.Int() },
		"forks": func(i int) int { return i % 2 * i },
	} {
		h := heap(t, counted)
		step := func(what string, length int, call func()) {
			t.Helper()
			calls = 0
			call()
			if most := 4 * bits.Len(uint(length)); calls > most {
				t.Errorf("%s: %s at length %d: less is called %d times, at most %d", name, what, length, calls, most)
			}
		}
		for i := range 1 << 12 {
			step("Push", i+1, func() { h.Push(next(i)) })
			if i%3 == 0 {
				step("Pop", h.Len(), func() { h.Pop() })
				step("Push", h.Len()+1, func() { h.Push(next(i)) })
			}
			step("Peek and Len", 0, func() { h.Peek(); h.Len() })
		}
		for h.Len() > 0 {
			step("Pop", h.Len(), func() { h.Pop() })
		}
		step("Pop of none", 0, func() { h.Pop() })
	}
}

// P8.3, R1: a nil heap, and one that NewHeap has not made.
func TestNoHeap(t *testing.T) {
	var none *runs.Heap[card]
	for _, h := range []*runs.Heap[card]{none, {}} {
		h.Push(card{1, 2})
		c, ok := h.Pop()
		want(t, "Pop", c, card{})
		want(t, "Pop", ok, false)
		c, ok = h.Peek()
		want(t, "Peek", c, card{})
		want(t, "Peek", ok, false)
		want(t, "Len", h.Len(), 0)
	}
}

// P8.2: two heaps have nothing to do with one another.
func TestHeapsAreApart(t *testing.T) {
	up := heap(t, func(a, b int) bool { return a < b })
	down := heap(t, func(a, b int) bool { return a > b })
	for i := range 100 {
		up.Push(i)
		down.Push(i)
	}
	for i := range 100 {
		a, _ := up.Pop()
		b, _ := down.Pop()
		want(t, "up", a, i)
		want(t, "down", b, 99-i)
	}
}

// P8.13: a call panics only if less does, and the heap is then as it was.
func TestHeapWhoseLessPanics(t *testing.T) {
	left := -1
	h := heap(t, func(a, b card) bool {
		if left == 0 {
			panic("enough")
		}
		left--
		return lower(a, b)
	})
	try := func(from int, call func()) (panicked bool) {
		left = from
		defer func() {
			panicked = recover() != nil
			left = -1
		}()
		call()
		return false
	}
	r := rand.New(rand.NewSource(4))
	p := pile{}
	for i := range 600 {
		c := card{r.Intn(50), i}
		if !try(r.Intn(4), func() { h.Push(c) }) {
			p = append(p, c)
		}
		want(t, "Len", h.Len(), len(p))
		if i%4 == 0 {
			var got card
			if !try(r.Intn(9), func() { got, _ = h.Pop() }) {
				k := p.first()
				want(t, "Pop", got, p[k])
				p = slices.Delete(p, k, k+1)
			}
		}
	}
	for len(p) > 0 {
		p.takes(t, h)
	}
	empty(t, h)
}

// P8.13: a less that asks its own heap for this and that makes no call panic, and all calls end.
func TestHeapWhoseLessCallsIt(t *testing.T) {
	r := rand.New(rand.NewSource(5))
	var h *runs.Heap[int]
	inside := false
	h = heap(t, func(a, b int) bool {
		if !inside {
			inside = true
			for range r.Intn(4) {
				h.Pop()
			}
			for range r.Intn(4) {
				h.Push(r.Intn(100))
			}
			h.Peek()
			inside = false
		}
		return a < b
	})
	for range 3000 {
		h.Push(r.Intn(100))
		h.Push(r.Intn(100))
		h.Pop()
	}
	for h.Len() > 0 {
		h.Pop()
	}
}
