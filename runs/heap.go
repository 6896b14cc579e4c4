package runs

import "mill/api"

// Heap is a heap of anything.
type Heap[T any] struct {
	less   func(a, b T) bool
	items  []item[T] // none is ahead of the one above it
	pushed uint64    // how many were pushed, ever
}

// item is something with the number of its Push, which decides where less doesn't.
type item[T any] struct {
	x      T
	number uint64
}

// NewHeap makes a heap; less tells whether the first one comes ahead.
func NewHeap[T any](less func(a, b T) bool) (*Heap[T], api.Errno) {
	if less == nil {
		return nil, api.ErrArg
	}
	return &Heap[T]{less: less}, api.OK
}

// Push lays one in.
func (h *Heap[T]) Push(x T) {
	if h == nil || h.less == nil {
		return
	}
	one := item[T]{x, h.pushed}
	at := len(h.items)
	// What the caller's less does is not known: nothing moves before all its answers are there, so that nothing is lost if it panics; and the list is held on to, so that all places stay within it.
	l := append(h.items, one)
	place := h.rise(l, one)
	for ; at > place; at = above(at) {
		l[at] = l[above(at)]
	}
	l[place] = one
	h.items = l
	h.pushed++
}

// Pop takes the first one out.
func (h *Heap[T]) Pop() (T, bool) {
	var none T
	if h.Len() == 0 {
		return none, false
	}
	l, last := h.items, len(h.items)-1
	one := l[last]
	// As in Push, nothing moves before less has said all.
	place := h.sink(l[:last], one)
	for ; place >= 0; place = above(place) {
		l[place], one = one, l[place]
	}
	l[last] = item[T]{}
	h.items = l[:last]
	return one.x, true
}

// Peek tells the first one.
func (h *Heap[T]) Peek() (T, bool) {
	if h.Len() == 0 {
		var none T
		return none, false
	}
	return h.items[0].x, true
}

// Len tells how many there are.
func (h *Heap[T]) Len() int {
	if h == nil {
		return 0
	}
	return len(h.items)
}

// rise tells how far up the last place's item goes.
func (h *Heap[T]) rise(l []item[T], one item[T]) int {
	place := len(l) - 1
	for place > 0 && h.ahead(one, l[above(place)]) {
		place = above(place)
	}
	return place
}

// sink tells how far down an item goes that comes in the place of the first one.
func (h *Heap[T]) sink(l []item[T], one item[T]) int {
	place := 0
	for {
		kid := 2*place + 1
		if kid >= len(l) {
			return place
		}
		if kid+1 < len(l) && h.ahead(l[kid+1], l[kid]) {
			kid++
		}
		if h.ahead(one, l[kid]) {
			return place
		}
		place = kid
	}
}

// ahead tells whether an item comes out ahead of another. One question is enough: of two that are alike the one with the lower number is ahead, so it must only not be behind.
func (h *Heap[T]) ahead(a, b item[T]) bool {
	if a.number < b.number {
		return !h.less(b.x, a.x)
	}
	return h.less(a.x, b.x)
}

// above gives the place above a place; -1: there is none.
func above(place int) int { return (place+1)/2 - 1 }
