package merge_test

import (
	"cmp"
	"math/rand"
	"slices"
	"testing"

	"mill/api"
	"mill/merge"
)

// lists merges lists of cards by their ranks; none is refused.
func lists(t *testing.T, unique bool, l ...[]card) []card {
	t.Helper()
	got, e := merge.Lists(byRank, unique, l...)
	want(t, "Lists", e, api.OK)
	return got
}

// firsts leaves out whoever counts as one with the one ahead in what is left.
func firsts(l []card) (out []card) {
	for _, c := range l {
		if len(out) == 0 || out[len(out)-1].rank != c.rank {
			out = append(out, c)
		}
	}
	return out
}

// P9.6: who is refused, and which of two errors comes first.
func TestListsRefusals(t *testing.T) {
	for n := range api.MaxFan + 5 {
		wanted := api.OK
		if n > api.MaxFan {
			wanted = api.ErrFan
		}
		l := make([][]int, n)
		for i := range l {
			l[i] = []int{-i}
		}
		for _, unique := range []bool{false, true} {
			got, e := merge.Lists(cmp.Compare, unique, l...)
			want(t, "Lists", e, wanted)
			want(t, "Lists: items", len(got), n*(1-int(min(wanted, 1))))
			got, e = merge.Lists(nil, unique, l...)
			want(t, "Lists without an order", e, api.ErrArg)
			same(t, "Lists without an order", got, nil)
		}
	}
}

// P9.6: all lists of a few elements, in order or not, against the model of P9.3, with unique and without.
func TestListsShort(t *testing.T) {
	few := texts("012", 3)
	for _, a := range few {
		for _, b := range few {
			for _, scripts := range [][]string{{a}, {a, b}, {"", a, b}, {a, "1", b}} {
				m := newModel(scripts...)
				var all []card
				for {
					c, _, ok, _ := m.next()
					if !ok {
						break
					}
					all = append(all, c)
				}
				l := make([][]card, len(scripts))
				for i, s := range scripts {
					for k, x := range s {
						l[i] = append(l[i], card{int(x - '0'), i, k})
					}
				}
				same(t, "Lists", lists(t, false, l...), all)
				same(t, "Lists, unique", lists(t, true, l...), firsts(all))
			}
		}
	}
	same(t, "Lists of none", lists(t, false), nil)
	same(t, "Lists of none, unique", lists(t, true, nil, nil), nil)
}

// P9.6: as many lists as there may be, in order: all elements in order, or of those that count as one the first.
func TestListsLong(t *testing.T) {
	r := rand.New(rand.NewSource(7))
	for n := range api.MaxFan + 1 {
		for _, ranks := range []int{1, 3, 40, 1000} {
			l := drawn(r, n, 30, ranks)
			all := merged(l...)
			same(t, "Lists", lists(t, false, l...), all)
			same(t, "Lists, unique", lists(t, true, l...), firsts(all))
		}
	}
}

// P9.6: with unique an element is held against the one ahead of it in the answer, not against the one ahead of it that was left out.
func TestListsUniqueAgainstTheAnswer(t *testing.T) {
	near := func(a, b int) int {
		if -1 <= a-b && a-b <= 1 {
			return 0
		}
		return cmp.Compare(a, b)
	}
	got, e := merge.Lists(near, true, []int{1, 2, 3, 4, 5, 9})
	want(t, "Lists", e, api.OK)
	same(t, "Lists", got, []int{1, 3, 5, 9})
	zeros, e := merge.Lists(cmp.Compare, true, []int{0, 0}, []int{0, 1})
	want(t, "Lists", e, api.OK)
	same(t, "Lists", zeros, []int{0, 1})
}

// P9.6: of other types too.
func TestListsOfAnything(t *testing.T) {
	words, e := merge.Lists(cmp.Compare, true, []string{"", "a", "a"}, []string{"", "b"})
	want(t, "Lists", e, api.OK)
	same(t, "Lists", words, []string{"", "a", "b"})
	nothings, e := merge.Lists(func(a, b struct{}) int { return 0 }, false, make([]struct{}, 3), make([]struct{}, 2))
	want(t, "Lists", e, api.OK)
	want(t, "Lists", len(nothings), 5)
}

// P9.8: of lists in order Lists is free in how they are grouped, with unique too.
func TestListsGrouped(t *testing.T) {
	r := rand.New(rand.NewSource(8))
	for range 2000 {
		l := drawn(r, 3, 6, 1+r.Intn(6))
		for _, unique := range []bool{false, true} {
			all := lists(t, unique, l...)
			same(t, "l1 and (l2 and l3)", lists(t, unique, l[0], lists(t, unique, l[1], l[2])), all)
			same(t, "(l1 and l2) and l3", lists(t, unique, lists(t, unique, l[0], l[1]), l[2]), all)
		}
	}
}

// P9.9: the lists stay as they are, spare room included, and the answer shares no memory with them or with another answer.
func TestListsMemory(t *testing.T) {
	mark := card{-1, -1, -1}
	for _, l := range [][][]card{{cards(0, 1, 2, 3)}, {cards(0, 1, 2, 3), nil}, {nil, cards(1, 5, 4)}, {cards(0, 1, 1), cards(1, 1, 1, 2)}, {{}, {}}} {
		handed := make([][]card, len(l))
		for i := range l {
			handed[i] = roomy(l[i], mark)
		}
		for _, unique := range []bool{false, true} {
			one, other := lists(t, unique, handed...), lists(t, unique, handed...)
			places := []memory{ofList(one), ofList(other)}
			for i := range handed {
				untouched(t, "a list", handed[i], l[i], mark)
				places = append(places, ofList(handed[i]))
			}
			apart(t, "lists and answers", places...)
		}
	}
}

// P9.9: an order that changes the lists that were handed in does not change what comes of them.
func TestListsWhoseOrderChangesThem(t *testing.T) {
	l := [][]int{{1, 3, 5}, {2, 4, 6}}
	got, e := merge.Lists(func(a, b int) int {
		for i := range l {
			clear(l[i])
		}
		return cmp.Compare(a, b)
	}, false, slices.Clone(l)...)
	want(t, "Lists", e, api.OK)
	same(t, "Lists", got, []int{1, 2, 3, 4, 5, 6})
}

// P9.9: of an order that is none all elements come; one that panics lets Lists panic.
func TestListsWithoutAnOrder(t *testing.T) {
	r := rand.New(rand.NewSource(9))
	for range 200 {
		l := drawn(r, r.Intn(9), 9, 4)
		got, e := merge.Lists(func(a, b card) int { return r.Intn(3) - 1 }, false, l...)
		want(t, "Lists", e, api.OK)
		slices.SortFunc(got, func(a, b card) int {
			return cmp.Or(byRank(a, b), cmp.Compare(a.source, b.source), cmp.Compare(a.number, b.number))
		})
		same(t, "all elements", got, merged(l...))
		_, e = merge.Lists(func(a, b card) int { return r.Intn(3) - 1 }, true, l...)
		want(t, "Lists, unique", e, api.OK)
	}
	defer func() { want[any](t, "the panic", recover(), "enough") }()
	merge.Lists(func(a, b int) int { panic("enough") }, false, []int{1}, []int{2})
}
