package plan

import (
	"slices"

	"mill/api"
)

// run is a run that is not merged yet.
type run struct{ weight, number int }

// ahead tells whether a run is merged ahead of another.
func (r run) ahead(other run) bool {
	return r.weight < other.weight || r.weight == other.weight && r.number < other.number
}

// heap holds the runs that are left: none of them is ahead of the one above it.
type heap []run

// newHeap makes a heap of the runs of these weights.
func newHeap(weights []int) heap {
	h := make(heap, len(weights))
	for i := range len(h) {
		h[i] = run{weights[i], i}
	}
	// The later half has nothing below it.
	half := len(h) / 2
	for i := range half {
		h.sink(half - 1 - i)
	}
	return h
}

// merge merges the first runs, so many, into a new one of this number.
func (h *heap) merge(many, out int) api.Step {
	in := make([]int, many)
	made := run{number: out}
	for i := range many {
		if i > 0 {
			h.drop()
		}
		first := (*h)[0]
		in[i] = first.number
		made.weight += first.weight
	}
	// The last of them need not be dropped: the new one comes in its place.
	(*h)[0] = made
	h.sink(0)
	slices.Sort(in)
	return api.Step{In: in, Out: out}
}

// drop takes the first run out.
func (h *heap) drop() {
	l, last := *h, len(*h)-1
	l[0] = l[last]
	*h = l[:last]
	h.sink(0)
}

// sink lets the run at a place go down to where it belongs.
func (h heap) sink(place int) {
	for {
		first := place
		for kid := 2*place + 1; kid <= 2*place+2 && kid < len(h); kid++ {
			if h[kid].ahead(h[first]) {
				first = kid
			}
		}
		if first == place {
			return
		}
		h[place], h[first] = h[first], h[place]
		place = first
	}
}
