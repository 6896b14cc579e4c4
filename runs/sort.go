package runs

import (
	"sync"

	"mill/api"
	"mill/collate"
)

// part is a part of a list, sorted, with its number.
type part struct {
	number int
	recs   []api.Rec
	thrown any // what the sorting has panicked with, if it has
}

// Sort gives records in order, sorted by so many goroutines, unless done is closed.
func Sort(o *collate.Order, l []api.Rec, parallel int, done <-chan struct{}) ([]api.Rec, bool) {
	if o == nil || !isParallel(parallel) || isClosed(done) {
		return nil, false
	}
	parts, ok := sortParts(o.Sort, cut(l, parallel), done)
	if !ok {
		return nil, false
	}
	return merged(o, parts), true
}

// isParallel tells whether a list may be sorted by so many goroutines.
func isParallel(n int) bool { return n >= 1 && n <= api.MaxParallel }

// isClosed tells whether a channel is closed. What was sent over it ahead of that says nothing, but has to be taken out of the way.
func isClosed(done <-chan struct{}) bool {
	for range len(done) + 1 {
		select {
		case _, more := <-done:
			if !more {
				return true
			}
		default:
			return false
		}
	}
	return false
}

// cut cuts a list into so many parts, as even as they can be.
func cut(l []api.Rec, many int) [][]api.Rec {
	parts := make([][]api.Rec, many)
	for i := range parts {
		parts[i] = l[len(l)*i/many : len(l)*(i+1)/many]
	}
	return parts
}

// sortParts sorts each part by a goroutine of its own, all of which have ended when it answers; false: done was closed ahead of the end.
func sortParts(sorting func([]api.Rec) []api.Rec, parts [][]api.Rec, done <-chan struct{}) ([][]api.Rec, bool) {
	sorted := make(chan part)
	over := make(chan struct{})
	var workers sync.WaitGroup
	for i, recs := range parts {
		workers.Add(1)
		go func() {
			defer workers.Done()
			p := sortPart(sorting, i, recs)
			select {
			case sorted <- p:
			case <-over:
			}
		}()
	}
	out, ok := collect(sorted, len(parts), done)
	// Whoever has not sent its part yet need not any more: else the wait would have no end.
	close(over)
	workers.Wait()
	return recsOf(out), ok
}

// sortPart sorts a part. Out of a goroutine of its own a panic would end the program, whoever recovers: it is sent to the one that asked.
func sortPart(sorting func([]api.Rec) []api.Rec, number int, recs []api.Rec) (p part) {
	p.number = number
	defer func() { p.thrown = recover() }()
	p.recs = sorting(recs)
	return p
}

// recsOf gives the records of parts, or panics as the first of them did that has.
func recsOf(parts []part) [][]api.Rec {
	var l [][]api.Rec
	for _, p := range parts {
		if p.thrown != nil {
			panic(p.thrown)
		}
		l = append(l, p.recs)
	}
	return l
}

// collect takes so many parts as they come, and lays each where it belongs; false: done was closed meanwhile.
func collect(sorted <-chan part, many int, done <-chan struct{}) ([]part, bool) {
	out := make([]part, many)
	for got := 0; got < many; {
		select {
		case p := <-sorted:
			out[p.number] = p
			got++
		case _, more := <-done:
			if !more {
				return nil, false
			}
		}
	}
	return out, true
}

// merged merges sorted parts, of which there is at least one.
func merged(o *collate.Order, parts [][]api.Rec) []api.Rec {
	if len(parts) == 1 {
		return parts[0]
	}
	half := len(parts) / 2
	return mergedTwo(o, merged(o, parts[:half]), merged(o, parts[half:]))
}

// mergedTwo merges two sorted parts: where neither record is ahead, the one of the left part goes first, as it stood first.
func mergedTwo(o *collate.Order, left, right []api.Rec) []api.Rec {
	out := make([]api.Rec, len(left)+len(right))
	for i := range out {
		if len(left) == 0 || len(right) > 0 && ahead(o, right[0], left[0]) {
			out[i], right = right[0], right[1:]
		} else {
			out[i], left = left[0], left[1:]
		}
	}
	return out
}
