package merge_test

import (
	"cmp"
	"testing"

	"mill/api"
	"mill/merge"
)

// Example 1 of the chapter.
func TestExample1(t *testing.T) {
	l, e := merge.Lists(cmp.Compare, false, []int{1, 4, 4}, []int{2, 4}, []int{})
	want(t, "Lists", e, api.OK)
	same(t, "Lists", l, []int{1, 2, 4, 4, 4})
	c, e := merge.Lists(byRank, false, cards(0, 1, 4, 4), cards(1, 2, 4), nil)
	want(t, "Lists", e, api.OK)
	same(t, "Lists", c, []card{{1, 0, 0}, {2, 1, 0}, {4, 0, 1}, {4, 0, 2}, {4, 1, 1}})
	l, e = merge.Lists(cmp.Compare, true, []int{1, 4, 4}, []int{2, 4}, []int{})
	want(t, "Lists, unique", e, api.OK)
	same(t, "Lists, unique", l, []int{1, 2, 4})
}

// Example 2.
func TestExample2(t *testing.T) {
	x := tree(t, cmp.Compare, merge.Of([]int{1, 4}), merge.Of([]int{1, 3}))
	gives(t, x, 1, 0)
	gives(t, x, 1, 1)
	gives(t, x, 3, 1)
	gives(t, x, 4, 0)
	if _, _, ok, e := x.Next(); ok || e != api.OK {
		t.Errorf("Next at the end: %v, %d", ok, e)
	}
	if n := x.Compared(); n > 2+5*1 {
		t.Errorf("Compared: %d", n)
	}
	ends(t, x, 0, api.OK)
}

// Example 3.
func TestExample3(t *testing.T) {
	s := script(t, "13", "1e")
	x := tree(t, byRank, s.sources()...)
	gives(t, x, card{1, 0, 0}, 0)
	gives(t, x, card{1, 1, 0}, 1)
	same(t, "asked", s.asked, []int{0, 1, 0})
	ends(t, x, 1, errorOf(1, 1))
	same(t, "asked", s.asked, []int{0, 1, 0, 1})
}

// Example 4.
func TestExample4(t *testing.T) {
	order := func(a, b int) int {
		t.Error("the order is called")
		return 0
	}
	x := tree(t, order, merge.Of([]int{3, 1, 2, 2}))
	for _, n := range []int{3, 1, 2, 2} {
		gives(t, x, n, 0)
	}
	ends(t, x, 0, api.OK)
	want(t, "Compared", x.Compared(), 0)
	ends(t, tree[int](t, order), 0, api.OK)
}

// Example 5.
func TestExample5(t *testing.T) {
	one, other := []api.Rec{rec(1, "b"), rec(4, "c")}, []api.Rec{rec(0, "b"), rec(2, "b")}
	same(t, "Files", files(t, cmp.Compare, false, one, other), []api.Rec{rec(0, "b"), rec(1, "b"), rec(2, "b"), rec(4, "c")})
	same(t, "Files, unique", files(t, cmp.Compare, true, one, other), []api.Rec{rec(0, "b"), rec(4, "c")})
}

// Example 6.
func TestExample6(t *testing.T) {
	calls := 0
	n, e := merge.Files(cmp.Compare, false, func(api.Rec) api.Errno {
		if calls++; calls == 3 {
			return api.ErrSpace
		}
		return api.OK
	}, runsOf(t, []api.Rec{rec(1, "b"), rec(4, "c")}, []api.Rec{rec(0, "b"), rec(2, "b")})...)
	want(t, "Files", n, 2)
	want(t, "Files", e, api.ErrSpace)
	want(t, "calls of put", calls, 3)
}
