package runs

import (
	"sync"

	"mill/api"
	"mill/collate"
)

// part is a part of a list, sorted, with its number.
type part struct {
	number int
	recs   []api.Rec
}

// Sort gives records in order, sorted by so many goroutines, unless done is closed.
func Sort(o *collate.Order, l []api.Rec, parallel int, done <-chan struct{}) ([]api.Rec, bool) {
	if o == nil || !isParallel(parallel) || isClosed(done) {
		return nil, false
	}
	parts, ok := sortParts(o, cut(l, parallel), done)
	if !ok {
		return nil, false
	}
	return merged(o, parts), true
}

// isParallel tells whether a list may be sorted by so many goroutines.
func isParallel(n int) bool { return n >= 1 && n <= api.MaxParallel }

// isClosed tells whether a channel is closed. What was sent over it ahead of that says nothing, but has to be taken out of the way.
func isClosed(done <-chan struct{}) bool {
	for range len(done) + 1 {
		select {
		case _, more := <-done:
			if !more {
				return true
			}
		default:
			return false
		}
	}
	return false
}

// cut cuts a list into so many parts, as even as they can be.
func cut(l []api.Rec, many int) [][]api.Rec {
	parts := make([][]api.Rec, many)
	for i := range parts {
		parts[i] = l[len(l)*i/many : len(l)*(i+1)/many]
	}
	return parts
}

// sortParts sorts each part by a goroutine of its own, all of which have ended when it answers; false: done was closed ahead of the end.
func sortParts(o *collate.Order, parts [][]api.Rec, done <-chan struct{}) ([][]api.Rec, bool) {
	sorted := make(chan part)
	over := make(chan struct{})
	var workers sync.WaitGroup
	for i, recs := range parts {
		workers.Add(1)
		go func() {
			defer workers.Done()
			p := part{i, o.Sort(recs)}
			select {
			case sorted <- p:
			case <-over:
			}
		}()
	}
	out, ok := collect(sorted, len(parts), done)
	// Whoever has not sent its part yet need not any more: else the wait would have no end.
	close(over)
	workers.Wait()
	return out, ok
}

// collect takes so many parts as they come, and lays each where it belongs; false: done was closed meanwhile.
func collect(sorted <-chan part, many int, done <-chan struct{}) ([][]api.Rec, bool) {
	out := make([][]api.Rec, many)
	for got := 0; got < many; {
		select {
		case p := <-sorted:
			out[p.number] = p.recs
			got++
		case _, more := <-done:
			if !more {
				return nil, false
			}
		}
	}
	return out, true
}

// merged merges sorted parts, of which there is at least one.
func merged(o *collate.Order, parts [][]api.Rec) []api.Rec {
	if len(parts) == 1 {
		return parts[0]
	}
	half := len(parts) / 2
	return mergedTwo(o, merged(o, parts[:half]), merged(o, parts[half:]))
}

// mergedTwo merges two sorted parts: where neither record is ahead, the one of the left part goes first, as it stood first.
func mergedTwo(o *collate.Order, left, right []api.Rec) []api.Rec {
	out := make([]api.Rec, len(left)+len(right))
	for i := range out {
		if len(left) == 0 || len(right) > 0 && ahead(o, right[0], left[0]) {
			out[i], right = right[0], right[1:]
		} else {
			out[i], left = left[0], left[1:]
		}
	}
	return out
}
