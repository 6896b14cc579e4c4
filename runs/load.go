package runs

import (
	"mill/api"
	"mill/collate"
)

// mostSkipped is how many lines and runs may have gone ahead.
const mostSkipped = 1 << 40

// Load makes runs of loads.
type Load struct {
	stock
	parallel int
	done     <-chan struct{}
	recs     []api.Rec
	run      int  // the number of the next run
	begun    bool // whether a line has been added
}

// NewLoad makes one under a budget, sorted by so many goroutines, unless done is closed.
func NewLoad(o *collate.Order, lines int, bytes int, parallel int, done <-chan struct{}) (*Load, api.Errno) {
	s, e := newStock(o, lines, bytes)
	if e != api.OK {
		return nil, e
	}
	if !isParallel(parallel) {
		return nil, api.ErrArg
	}
	return &Load{stock: s, parallel: parallel, done: done}, api.OK
}

// Skip says that so many lines and runs have gone ahead.
func (l *Load) Skip(lines int, runs int) api.Errno {
	if l == nil {
		return api.ErrNil
	}
	if l.begun || lines < 0 || lines > mostSkipped || runs < 0 || runs > mostSkipped {
		return api.ErrArg
	}
	l.next, l.run = uint64(lines), runs
	return api.OK
}

// Add takes the next line; the run that has to go.
func (l *Load) Add(line string) ([]api.Tagged, api.Errno) {
	if l == nil {
		return nil, api.ErrNil
	}
	if isLong(line) {
		return nil, api.ErrLong
	}
	var out []api.Tagged
	if !l.fits(line) {
		run, e := l.Finish()
		if e != api.OK {
			return nil, e
		}
		out = run
	}
	l.recs = append(l.recs, l.take(line))
	l.begun = true
	return out, api.OK
}

// Finish gives the last run.
func (l *Load) Finish() ([]api.Tagged, api.Errno) {
	if l == nil {
		return nil, api.ErrNil
	}
	if len(l.recs) == 0 {
		return nil, api.OK
	}
	sorted, ok := Sort(l.order, l.recs, l.parallel, l.done)
	if !ok {
		return nil, api.ErrStop
	}
	out := make([]api.Tagged, len(sorted))
	for i, r := range sorted {
		out[i] = api.Tagged{Run: l.run, Rec: r}
	}
	l.recs, l.held = nil, size{}
	l.run++
	return out, api.OK
}

// Held tells how many lines are held, and what they cost.
func (l *Load) Held() (int, int) {
	if l == nil {
		return 0, 0
	}
	return l.held.lines, l.held.bytes
}
