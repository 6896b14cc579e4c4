package runs

import (
	"strings"

	"mill/api"
	"mill/collate"
)

// Gen makes runs by replacement selection.
type Gen struct {
	stock
	heap *Heap[api.Tagged]
	gone bool   // whether a record has gone out since the last Finish
	run  int    // its run, of the last one that has; if none has, the next run
	last string // its line
	runs int
}

// NewGen makes one under a budget.
func NewGen(o *collate.Order, lines int, bytes int) (*Gen, api.Errno) {
	s, e := newStock(o, lines, bytes)
	if e != api.OK {
		return nil, e
	}
	h, _ := NewHeap(func(a, b api.Tagged) bool {
		return a.Run < b.Run || a.Run == b.Run && ahead(o, a.Rec, b.Rec)
	})
	return &Gen{stock: s, heap: h}, api.OK
}

// Add takes the next line; what has to go.
func (g *Gen) Add(line string) ([]api.Tagged, api.Errno) {
	if g == nil {
		return nil, api.ErrNil
	}
	if isLong(line) {
		return nil, api.ErrLong
	}
	var out []api.Tagged
	for !g.fits(line) {
		out = append(out, g.letOut())
	}
	if n := len(out); n > 0 {
		// A copy: the line itself is the caller's now.
		g.gone, g.run, g.last = true, out[n-1].Run, strings.Clone(out[n-1].Rec.Line)
	}
	g.hold(line)
	return out, api.OK
}

// Finish gives all that is held.
func (g *Gen) Finish() []api.Tagged {
	if g == nil {
		return nil
	}
	out := make([]api.Tagged, g.held.lines)
	for i := range out {
		out[i] = g.letOut()
	}
	g.gone, g.run, g.last = false, g.runs, ""
	return out
}

// Held tells how many lines are held, and what they cost.
func (g *Gen) Held() (int, int) {
	if g == nil {
		return 0, 0
	}
	return g.held.lines, g.held.bytes
}

// Runs tells how many runs there are.
func (g *Gen) Runs() int {
	if g == nil {
		return 0
	}
	return g.runs
}

// letOut lets the next record out.
func (g *Gen) letOut() api.Tagged {
	t, _ := g.heap.Pop()
	g.drop(t.Rec.Line)
	return t
}

// hold holds a line, in the run that it may join.
func (g *Gen) hold(line string) {
	run := g.run
	if g.gone && g.order.Compare(g.last, line) > 0 {
		run++
	}
	g.heap.Push(api.Tagged{Run: run, Rec: g.take(line)})
	g.runs = max(g.runs, run+1)
}
