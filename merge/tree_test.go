package merge_test

import (
	"cmp"
	"math/rand"
	"testing"

	"mill/api"
	"mill/merge"
)

// asks asks a source for its next element, which must be this one, or for none.
func asks[T comparable](t *testing.T, s merge.Source[T], wanted T, there bool) {
	t.Helper()
	got, ok, e := s()
	if got != wanted || ok != there || e != api.OK {
		t.Errorf("source: %v, %v, %d, want %v, %v", got, ok, e, wanted, there)
	}
}

// P9.1: the elements in their order, zero values among them, and none as often as it is asked.
func TestOf(t *testing.T) {
	for _, l := range [][]int{nil, {}, {7}, {3, 1, 0, 2, 2}} {
		s := merge.Of(l)
		for _, n := range l {
			asks(t, s, n, true)
		}
		for range 5 {
			asks(t, s, 0, false)
		}
	}
	words := merge.Of([]string{"b", "", "a"})
	asks(t, words, "b", true)
	asks(t, words, "", true)
	asks(t, words, "a", true)
	asks(t, words, "", false)
	x := 1
	points := merge.Of([]*int{nil, &x})
	asks(t, points, nil, true)
	asks(t, points, &x, true)
	asks(t, points, nil, false)
	nothings := merge.Of(make([]struct{}, 2))
	asks(t, nothings, struct{}{}, true)
	asks(t, nothings, struct{}{}, true)
	asks(t, nothings, struct{}{}, false)
}

// P9.1, P9.9: a source goes through a copy, which is its own, and the list stays as it is.
func TestOfCopies(t *testing.T) {
	plain := []int{1, 2, 3}
	l := roomy(plain, 9)
	one, other := merge.Of(l), merge.Of(l)
	asks(t, one, 1, true)
	untouched(t, "the list", l, plain, 9)
	l[0], l[1], l[2] = 7, 7, 7
	l = append(l[:1], 8, 8, 8, 8)
	asks(t, one, 2, true)
	asks(t, other, 1, true)
	asks(t, one, 3, true)
	asks(t, one, 0, false)
	asks(t, other, 2, true)
	asks(t, other, 3, true)
	asks(t, other, 0, false)
	same(t, "the list", l, []int{7, 8, 8, 8, 8})
}

// many are so many sources, each of which notes that it is asked.
func many(n int, asked *int) []merge.Source[int] {
	l := make([]merge.Source[int], n)
	for i := range l {
		l[i] = func() (int, bool, api.Errno) {
			*asked++
			return 0, false, api.OK
		}
	}
	return l
}

// P9.2: who gets no tree, which of two errors comes first, and that no source is asked.
func TestNew(t *testing.T) {
	asked := 0
	for n := range api.MaxFan + 5 {
		wanted := api.OK
		if n > api.MaxFan {
			wanted = api.ErrFan
		}
		x, e := merge.New(cmp.Compare, many(n, &asked)...)
		want(t, "New", e, wanted)
		want(t, "New: there is a tree", x != nil, wanted == api.OK)
		x, e = merge.New(nil, many(n, &asked)...)
		want(t, "New without an order", e, api.ErrArg)
		want(t, "New without an order", x, nil)
		for i := range n {
			l := many(n, &asked)
			l[i] = nil
			x, e = merge.New(cmp.Compare, l...)
			want(t, "New with a nil source", e, api.ErrArg)
			want(t, "New with a nil source", x, nil)
		}
	}
	want(t, "asked", asked, 0)
	ends(t, tree[int](t, cmp.Compare), 0, api.OK)
}

// P9.2, P9.9: a tree keeps its sources, whatever becomes of the list in which they came; and the list stays as it is.
func TestNewCopies(t *testing.T) {
	l := []merge.Source[int]{merge.Of([]int{1, 3}), merge.Of([]int{2})}
	x := tree(t, cmp.Compare, l...)
	want(t, "the list is as it was", l[0] != nil && l[1] != nil && len(l) == 2, true)
	l[0], l[1] = nil, merge.Of([]int{9, 9})
	gives(t, x, 1, 0)
	l[0] = merge.Of([]int{9, 9})
	gives(t, x, 2, 1)
	gives(t, x, 3, 0)
	ends(t, x, 0, api.OK)
}

// P9.3: of lists in order all elements come in order, each just once, those that count as one by their sources, those of one source as they stood.
func TestNextInOrder(t *testing.T) {
	r := rand.New(rand.NewSource(2))
	for n := range api.MaxFan + 1 {
		for _, ranks := range []int{1, 2, 5, 1000} {
			lists := drawn(r, n, 20, ranks)
			x := over(t, byRank, lists...)
			for _, c := range merged(lists...) {
				gives(t, x, c, c.source)
			}
			ends(t, x, 0, api.OK)
			if t.Failed() {
				t.Fatalf("lists %v", lists)
			}
		}
	}
}

// P9.3: of other types too, zero values among them, and by orders whose numbers are not -1, 0, 1.
func TestNextOfAnything(t *testing.T) {
	words := over(t, func(a, b string) int { return 1000 * (len(a) - len(b)) }, []string{"", "bb", "ccc"}, []string{"", "x", "dd"})
	for _, w := range []struct {
		word   string
		source int
	}{{"", 0}, {"", 1}, {"x", 1}, {"bb", 0}, {"dd", 1}, {"ccc", 0}} {
		gives(t, words, w.word, w.source)
	}
	ends(t, words, 0, api.OK)
	far := over(t, func(a, b int) int {
		switch {
		case a < b:
			return -1 << 63
		case a > b:
			return 1<<63 - 1
		}
		return 0
	}, []int{0, 2}, []int{-1, 0, 3}, []int{0})
	for _, w := range [][2]int{{-1, 1}, {0, 0}, {0, 1}, {0, 2}, {2, 0}, {3, 1}} {
		gives(t, far, w[0], w[1])
	}
	ends(t, far, 0, api.OK)
	n := 3
	points := over(t, func(a, b *int) int {
		if a == nil || b == nil {
			t.Fatal("the order is asked of what no source gave")
		}
		return cmp.Compare(*a, *b)
	}, []*int{&n}, nil, []*int{&n, &n}, nil, nil)
	for _, source := range []int{0, 2, 2} {
		gives(t, points, &n, source)
	}
	ends(t, points, 0, api.OK)
}

// P9.3: an element is given as soon as the sources were asked that have to be, so that they need have no end.
func TestNextOfSourcesWithoutEnd(t *testing.T) {
	multiples := func(step int) merge.Source[int] {
		n := 0
		return func() (int, bool, api.Errno) {
			n += step
			return n, true, api.OK
		}
	}
	x := tree(t, cmp.Compare, multiples(3), multiples(2))
	for _, w := range [][2]int{{2, 1}, {3, 0}, {4, 1}, {6, 0}, {6, 1}, {8, 1}, {9, 0}} {
		gives(t, x, w[0], w[1])
	}
}

// P9.4: how often the order is called, Next by Next, however the elements lie: all in one source, in turns, all alike, in blocks, drawn.
func TestCompared(t *testing.T) {
	r := rand.New(rand.NewSource(3))
	for name, rank := range map[string]func(many, source, number int) int{
		"alike": func(many, source, number int) int { return 0 }, "turns": func(many, source, number int) int { return number*many + source },
		"back": func(many, source, number int) int { return number*many - source }, "blocks": func(many, source, number int) int { return source*1000 + number },
		"blocks back": func(many, source, number int) int { return -source*1000 + number }, "drawn": func(many, source, number int) int { return number*5 + r.Intn(9) },
	} {
		for n := range api.MaxFan + 1 {
			lists := make([][]card, n)
			for i := range lists {
				for k := range 1 + r.Intn(8) {
					lists[i] = append(lists[i], card{rank(n, i, k), i, k})
				}
			}
			calls := 0
			x := over(t, func(a, b card) int {
				calls++
				return byRank(a, b)
			}, lists...)
			want(t, name+": Compared ahead of the first Next", x.Compared(), 0)
			nexts, more := 0, true
			for more {
				_, _, more, _ = x.Next()
				nexts++
				want(t, name+": Compared", x.Compared(), calls)
				if most := n + nexts*digits(n-1); calls > most {
					t.Fatalf("%s: %d sources, behind %d Nexts: the order is called %d times, at most %d", name, n, nexts, calls, most)
				}
			}
		}
	}
	if n := (*merge.Tree[int])(nil).Compared(); n != 0 {
		t.Errorf("Compared of a nil tree: %d", n)
	}
}

// P9.5: All goes on where the tree stands, and a loop that stops early takes no more than it was given.
func TestAll(t *testing.T) {
	lists := [][]card{cards(0, 1, 4, 7), cards(1, 2, 5, 8), cards(2, 3, 6, 9)}
	all := merged(lists...)
	for stop := range len(all) + 1 {
		for by := range 3 {
			x := over(t, byRank, lists...)
			at := 0
			for range by {
				gives(t, x, all[at], all[at].source)
				at++
			}
			for source, c := range x.All() {
				want(t, "All", c, all[at])
				want(t, "All", source, all[at].source)
				if at++; at >= stop {
					break
				}
			}
			same(t, "what is left", left(x), all[at:])
			ends(t, x, 0, api.OK)
		}
	}
}

// P9.5: one sequence may be gone through again and again, two in turns, and Next be asked within a loop.
func TestAllAgain(t *testing.T) {
	x := over(t, cmp.Compare, []int{1, 3, 5, 7}, []int{2, 4, 6, 8})
	all := x.All()
	for _, n := range all {
		want(t, "All", n, 1)
		break
	}
	for _, n := range all {
		want(t, "All again", n, 2)
		for _, n := range x.All() {
			want(t, "another All", n, 3)
			break
		}
		gives(t, x, 4, 1)
		break
	}
	// Nobody is there to take an element: none is lost.
	all(nil)
	var got []int
	for _, n := range all {
		got = append(got, n)
	}
	same(t, "what is left", got, []int{5, 6, 7, 8})
}

// P9.5: where a source fails, All ends, and Err says why: not ahead of that, and the same for good.
func TestErr(t *testing.T) {
	p := script(t, "1", "13e", "24")
	x := tree(t, byRank, p.sources()...)
	s, e := x.Err()
	want(t, "Err", s, 0)
	want(t, "Err", e, api.OK)
	var got []card
	for _, c := range x.All() {
		got = append(got, c)
		s, e = x.Err()
		want(t, "Err within", s, 0)
		want(t, "Err within", e, api.OK)
	}
	same(t, "All", ranksOf(got), []int{1, 1, 2, 3})
	same(t, "asked", p.asked, []int{0, 1, 2, 0, 1, 2, 1})
	ends(t, x, 1, errorOf(1, 2))
	same(t, "asked", p.asked, []int{0, 1, 2, 0, 1, 2, 1})
	compared := x.Compared()
	x.Next()
	want(t, "Compared", x.Compared(), compared)
}

// P9.3: an error of the last source, as of the first one, is told with its number.
func TestErrOfEachSource(t *testing.T) {
	for n := 1; n <= api.MaxFan; n++ {
		for i := range n {
			scripts := make([]string, n)
			scripts[i] = "e"
			p := script(t, scripts...)
			x := tree(t, byRank, p.sources()...)
			ends(t, x, i, errorOf(i, 0))
			want(t, "asked", len(p.asked), i+1)
		}
	}
}

// P9.3 to P9.5, R1: a nil tree, and one that New has not made.
func TestNoTree(t *testing.T) {
	var none *merge.Tree[string]
	ends(t, none, 0, api.ErrNil)
	none.All()(nil)
	made := &merge.Tree[string]{}
	made.Next()
	made.Err()
	made.All()(nil)
	want(t, "Compared", made.Compared(), 0)
	for range made.All() {
		t.Error("All of no tree")
	}
}

// P9.3: two trees have nothing to do with one another, but where they ask one source.
func TestTreesAreApart(t *testing.T) {
	up := over(t, cmp.Compare, []int{1, 3}, []int{2})
	down := over(t, func(a, b int) int { return b - a }, []int{3, 1}, []int{2})
	for i := range 3 {
		a, _, _, _ := up.Next()
		b, _, _, _ := down.Next()
		want(t, "up", a, i+1)
		want(t, "down", b, 3-i)
	}
	shared := merge.Of([]int{1, 2, 3, 4})
	one, other := tree(t, cmp.Compare, shared), tree(t, cmp.Compare, shared, shared)
	gives(t, one, 1, 0)
	gives(t, other, 2, 0)
	gives(t, one, 4, 0)
	gives(t, other, 3, 1)
	ends(t, one, 0, api.OK)
	ends(t, other, 0, api.OK)
}

// asSource makes a source of a tree.
func asSource[T any](x *merge.Tree[T]) merge.Source[T] {
	return func() (T, bool, api.Errno) {
		c, _, ok, e := x.Next()
		return c, ok, e
	}
}

// P9.8: trees over trees, however the lists are grouped, give what one tree over all gives.
func TestTreesOfTrees(t *testing.T) {
	r := rand.New(rand.NewSource(4))
	for range 500 {
		lists := drawn(r, r.Intn(20), 6, 1+r.Intn(6))
		var groups []merge.Source[card]
		for from := 0; from < len(lists); {
			to := from + 1 + r.Intn(len(lists)-from)
			group := lists[from:to]
			if inner := r.Intn(len(group)); inner > 0 {
				groups = append(groups, asSource(tree(t, byRank, asSource(over(t, byRank, group[:inner]...)), asSource(over(t, byRank, group[inner:]...)))))
			} else {
				groups = append(groups, asSource(over(t, byRank, group...)))
			}
			from = to
		}
		same(t, "trees of trees", left(tree(t, byRank, groups...)), left(over(t, byRank, lists...)))
	}
}

// P9.8: an inner tree's error is told with the number that its tree has among the outer one's sources.
func TestErrOfInnerTree(t *testing.T) {
	p := script(t, "12", "1e")
	inner := tree(t, byRank, p.sources()...)
	x := tree(t, byRank, merge.Of(cards(9, 1)), merge.Of(cards(8, 5)), asSource(inner))
	for _, source := range []int{0, 2, 2} {
		_, s, ok, e := x.Next()
		want(t, "Next", s, source)
		want(t, "Next", ok, true)
		want(t, "Next", e, api.OK)
	}
	ends(t, x, 2, errorOf(1, 1))
	ends(t, inner, 1, errorOf(1, 1))
}

// P9.9: of an order that is none each element is given once, and none is asked behind its end.
func TestTreeWithoutAnOrder(t *testing.T) {
	r := rand.New(rand.NewSource(5))
	for name, order := range map[string]func(a, b card) int{
		"ahead": func(a, b card) int { return -1 }, "behind": func(a, b card) int { return 1 },
		"in rings": func(a, b card) int { return (a.rank-b.rank+30)%3 - 1 }, "at will": func(a, b card) int { return r.Intn(3) - 1 },
		"far": func(a, b card) int { return -1 << 63 },
	} {
		for n := range api.MaxFan + 1 {
			scripts := make([]string, n)
			all := 0
			for i := range scripts {
				scripts[i] = "31230"[r.Intn(6):]
				all += len(scripts[i])
			}
			x := tree(t, order, script(t, scripts...).sources()...)
			came := map[card]bool{}
			for s, c := range x.All() {
				want(t, name+": source", s, c.source)
				want(t, name+": it came ahead", came[c], false)
				came[c] = true
			}
			want(t, name+": elements", len(came), all)
			ends(t, x, 0, api.OK)
		}
	}
}

// P9.9: a call panics only if an order or a source does, and nothing is lost then: whoever asks again gets what comes next.
func TestPanics(t *testing.T) {
	r := rand.New(rand.NewSource(6))
	for n := range 20 {
		for _, often := range []int{2, 5, 30} {
			lists := drawn(r, n, 8, 5)
			perhaps := func() {
				if r.Intn(often) == 0 {
					panic("enough")
				}
			}
			sources := make([]merge.Source[card], n)
			for i, l := range lists {
				of := merge.Of(l)
				sources[i] = func() (card, bool, api.Errno) {
					perhaps()
					return of()
				}
			}
			x := tree(t, func(a, b card) int {
				perhaps()
				return byRank(a, b)
			}, sources...)
			var got []card
			try := func() (more bool) {
				defer func() { more = recover() != nil || more }()
				c, _, ok, _ := x.Next()
				if ok {
					got = append(got, c)
				}
				return ok
			}
			for rounds := 0; try(); rounds++ {
				// With many sources an order that panics too often never says all that it has to.
				if rounds > 200 {
					often = 1 << 30
				}
			}
			same(t, "what came", got, merged(lists...))
		}
	}
}

// P9.9, R1: sources and orders that ask their own tree, each time, get nothing of it; all calls end, and all elements come.
func TestTreeAskedFromWithin(t *testing.T) {
	lists := [][]card{cards(0, 1, 3, 3), cards(1, 2), cards(2, 0, 3)}
	var x *merge.Tree[card]
	within := func() {
		c, s, ok, e := x.Next()
		if c != (card{}) || s != 0 || ok || e != api.OK {
			t.Errorf("Next from within: %v, %d, %v, %d", c, s, ok, e)
		}
		for range x.All() {
			t.Error("All from within")
		}
		s, e = x.Err()
		want(t, "Err from within", s, 0)
		want(t, "Err from within", e, api.OK)
		x.Compared()
	}
	sources := make([]merge.Source[card], len(lists))
	for i, l := range lists {
		of := merge.Of(l)
		sources[i] = func() (card, bool, api.Errno) {
			within()
			return of()
		}
	}
	x = tree(t, func(a, b card) int {
		within()
		return byRank(a, b)
	}, sources...)
	same(t, "what came", left(x), merged(lists...))
	ends(t, x, 0, api.OK)
	// A tree that is its own source has nothing to give but what the others have.
	var ring *merge.Tree[int]
	ring = tree(t, cmp.Compare, merge.Of([]int{2, 4}), func() (int, bool, api.Errno) {
		n, _, ok, e := ring.Next()
		return n, ok, e
	}, merge.Of([]int{3}))
	same(t, "what came", left(ring), []int{2, 3, 4})
}
