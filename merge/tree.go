package merge

import (
	"iter"
	"slices"

	"mill/api"
)

// Tree is a tree of losers. Its leaves are what the sources have in hand. At each node above them, numbered from 1 on, the node n above the nodes 2n and 2n+1, two of these meet, and the loser stays: so, when the first one of all has been given, its source's next one need only meet those that lost to it, on the way from its leaf to the top.
type Tree[T any] struct {
	order    func(a, b T) int
	sources  []Source[T]
	hand     []front[T] // of each source
	losers   []int      // of each node: the source that lost there
	first    int        // the source that lost nowhere
	played   bool       // whether losers and first are known
	due      int        // the sources that are to be asked: from due up to, but without, dueEnd
	dueEnd   int
	busy     bool // within Next
	compared int
	err      api.Errno
	failed   int // the source that answered it
}

// front is what a source has in hand, if there is anything.
type front[T any] struct {
	x     T
	there bool
}

// New makes a tree over sources.
func New[T any](order func(a T, b T) int, sources ...Source[T]) (*Tree[T], api.Errno) {
	isNil := func(s Source[T]) bool { return s == nil }
	switch {
	case order == nil || slices.ContainsFunc(sources, isNil):
		return nil, api.ErrArg
	case len(sources) > api.MaxFan:
		return nil, api.ErrFan
	}
	many := len(sources)
	return &Tree[T]{
		order:   order,
		sources: slices.Clone(sources),
		hand:    make([]front[T], many),
		losers:  make([]int, many),
		dueEnd:  many,
	}, api.OK
}

// Next gives the next element, and the number of its source.
func (t *Tree[T]) Next() (T, int, bool, api.Errno) {
	var none T
	if t == nil {
		return none, 0, false, api.ErrNil
	}
	// A source or an order that asks the tree that is just asking it gets nothing: else the two might go on without end, or an element get lost between them.
	if t.busy || len(t.sources) == 0 {
		return none, t.failed, false, t.err
	}
	t.busy = true
	defer func() { t.busy = false }()
	t.ask()
	if t.err != api.OK {
		return none, t.failed, false, t.err
	}
	t.play()
	x, there := t.take(t.first)
	if !there {
		return none, 0, false, api.OK
	}
	return x, t.first, true, api.OK
}

// All goes through what is left.
func (t *Tree[T]) All() iter.Seq2[int, T] {
	return func(yield func(int, T) bool) {
		// Nobody is there to take an element: none may be lost, and nothing panic.
		if yield == nil {
			return
		}
		for {
			x, source, ok, _ := t.Next()
			if !ok || !yield(source, x) {
				return
			}
		}
	}
}

// Err tells the error that stands, and the number of its source.
func (t *Tree[T]) Err() (int, api.Errno) {
	if t == nil {
		return 0, api.ErrNil
	}
	return t.failed, t.err
}

// Compared tells how often the order was called.
func (t *Tree[T]) Compared() int {
	if t == nil {
		return 0
	}
	return t.compared
}

// ask asks the sources that are due. Each is counted off only when it has answered, so that one that panics is asked again.
func (t *Tree[T]) ask() {
	for ; t.due < t.dueEnd; t.due++ {
		x, there, e := t.sources[t.due]()
		if e != api.OK {
			// All but this has no use any more, and need not be kept.
			*t = Tree[T]{compared: t.compared, err: e, failed: t.due}
			return
		}
		if there {
			t.hand[t.due] = front[T]{x, true}
		}
	}
}

// play finds the first one of what the sources have in hand.
func (t *Tree[T]) play() {
	// If the order panics, it is not known any more who lost where: then all meet anew.
	played := t.played
	t.played = false
	if played {
		t.first = t.rise(t.first)
	} else {
		t.first = t.winner(1)
	}
	t.played = true
}

// winner lets all meet at a node and below it, and tells which source lost at none of these.
func (t *Tree[T]) winner(node int) int {
	if node >= len(t.sources) {
		return node - len(t.sources)
	}
	one, other := t.winner(2*node), t.winner(2*node+1)
	if t.ahead(other, one) {
		one, other = other, one
	}
	t.losers[node] = other
	return one
}

// rise lets the new element of the source that lost nowhere meet those on its way to the top, and tells which source loses nowhere now.
func (t *Tree[T]) rise(source int) int {
	for node := (len(t.sources) + source) / 2; node > 0; node /= 2 {
		if other := t.losers[node]; t.ahead(other, source) {
			t.losers[node], source = source, other
		}
	}
	return source
}

// ahead tells whether what one source has in hand comes ahead of what another has: of those that count as one the one of the lower number. A source that has none is behind all.
func (t *Tree[T]) ahead(one, other int) bool {
	a, b := t.hand[one], t.hand[other]
	if !a.there || !b.there {
		return a.there
	}
	t.compared++
	c := t.order(a.x, b.x)
	return c < 0 || c == 0 && one < other
}

// take takes what a source has in hand, if there is anything: then the source is due.
func (t *Tree[T]) take(source int) (T, bool) {
	f := t.hand[source]
	if f.there {
		t.hand[source] = front[T]{}
		t.due, t.dueEnd = source, source+1
	}
	return f.x, f.there
}
