package collate_test

import (
	"testing"

	"mill/api"
)

// P5.3: the beginning of a key that goes up to the line's end.
func TestKeyBegins(t *testing.T) {
	for _, c := range []struct {
		words, line string
		from        int
	}{
		{"-k1", "  a b ", 0}, {"-k2", "  a b ", 3}, {"-k3", "  a b ", 5}, {"-k4", "  a b ", 6}, {"-k2147483647", "  a b ", 6},
		{"-k1b", "  a b ", 2}, {"-k2b", "  a b ", 4}, {"-k3b", "  a b ", 6}, {"-k4b", "  a b ", 6},
		{"-k1.2", "  a b ", 1}, {"-k1.2b", "  a b ", 3}, {"-k1.4", "  a b ", 3}, {"-k1.6", "  a b ", 5}, {"-k1.7", "  a b ", 6}, {"-k1.8", "  a b ", 6}, {"-k2.3", "  a b ", 5}, {"-k2.2b", "  a b ", 5}, {"-k1.2147483647", "  a b ", 6},
		{"-k1b", "\t \ta", 3}, {"-k1b", "\n a", 0}, {"-k1b", " \n a", 1}, {"-k1b", "   ", 3}, {"-k1.2b", "   ", 3},
		{"-k1", "", 0}, {"-k1b", "", 0}, {"-k2.2b", "", 0},
		// With a separator: the blanks behind the field's beginning may go on beyond it, and the last field may be empty.
		{"-t, -k2", "a,b", 2}, {"-t, -k2", "a,", 2}, {"-t, -k3", "a,", 2}, {"-t, -k2", ",", 1}, {"-t, -k1", ",", 0}, {"-t, -k2", "a", 1}, {"-t, -k1", "", 0}, {"-t, -k2", "", 0},
		{"-t, -k2b", "a, \tb", 4}, {"-t, -k2b", "a, ,b", 3}, {"-t, -k2.2b", "a, ,b", 4}, {"-t, -k2b", "a,  ", 4}, {"-t, -k2.3", "a,b,c", 4}, {"-t, -k2.9", "a,b,c", 5},
		{"-t: -k3", "a::b", 3}, {"-t: -k2b", "a::b", 2},
	} {
		span(t, c.words, c.line, c.from, len(c.line))
	}
	for _, c := range []struct {
		tab  int
		line string
		from int
	}{{32, "a   b", 4}, {9, "a\t \tb", 4}, {32, " ", 1}} {
		// A separator that is a blank is passed over like any other one.
		o := made(t, api.Options{Tab: c.tab, Keys: []api.Key{{Field: 2, Char: 1, Mods: api.ModB}}})
		want(t, c.line, o.Span(c.line, 0), api.Span{From: c.from, To: len(c.line)})
	}
}

// P5.4: the end of a key that begins at the line's beginning.
func TestKeyEnds(t *testing.T) {
	for _, c := range []struct {
		words, line string
		to          int
	}{
		{"-k1", "  a b ", 6}, {"-k1,1", "  a b ", 3}, {"-k1,2", "  a b ", 5}, {"-k1,3", "  a b ", 6}, {"-k1,4", "  a b ", 6}, {"-k1,2147483647", "  a b ", 6},
		{"-k1,1b", "  a b ", 3}, {"-k1,2b", "  a b ", 5}, // b means nothing where no byte is given
		{"-k1,1.1", "  a b ", 1}, {"-k1,1.3", "  a b ", 3}, {"-k1,1.5", "  a b ", 5}, {"-k1,1.6", "  a b ", 6}, {"-k1,1.7", "  a b ", 6}, {"-k1,1.2147483647", "  a b ", 6},
		{"-k1,1.1b", "  a b ", 3}, {"-k1,2.1", "  a b ", 4}, {"-k1,2.1b", "  a b ", 5}, {"-k1,3.1", "  a b ", 6}, {"-k1,3.1b", "  a b ", 6}, {"-k1,9.1", "  a b ", 6}, {"-k1,9.1b", "  a b ", 6},
		{"-k1,1", "", 0}, {"-k1,1.1b", "", 0}, {"-k1,2", "", 0},
		{"-t, -k1,1", "a,b", 1}, {"-t, -k1,2", "a,", 2}, {"-t, -k1,1", "", 0}, {"-t, -k1,1", ",", 0}, {"-t, -k1,2", ",", 1}, {"-t, -k1,2", "ab,cd,e", 5}, {"-t, -k1,3", "ab,cd", 5},
		{"-t, -k1,2.1", "ab,cd,e", 4}, {"-t, -k1,2.4", "ab,cd,e", 7}, {"-t, -k1,2.1b", "ab, \tcd", 6}, {"-t, -k1,2.1b", "ab, ,cd", 5}, {"-t, -k1,2.1b", "ab,  ", 5}, {"-t, -k1,3.2", "ab,cd", 5},
	} {
		span(t, c.words, c.line, 0, c.to)
	}
}

// P5.4: where the end is ahead of the beginning the key is empty, and stands where it begins.
func TestKeyEmpty(t *testing.T) {
	span(t, "-k2,1", "a b c", 1, 1)
	span(t, "-k3,1.1", "a b c", 3, 3)
	span(t, "-k9,1", "a b c", 5, 5)
	span(t, "-k1.3,1", "a b c", 2, 2)
	span(t, "-k2b,2.1", "a   b", 4, 4)
	span(t, "-k2b,2.3", "a   b", 4, 4)
	span(t, "-k2b,2.4", "a   b", 4, 5)
	span(t, "-k2.1,2.1b", "a   b", 1, 5)
	span(t, "-t, -k2,1", "a,b", 2, 2)
	span(t, "-t, -k2,2", "a,,b", 2, 2)
}

// P5.3, P5.4: b is each end's own, or both ends' where the key has the global modifiers.
func TestKeyBlanksOfEachEnd(t *testing.T) {
	span(t, "-k2b,2.1", "a  bc", 3, 3)
	span(t, "-k2,2.1b", "a  bc", 1, 4)
	span(t, "-k2b,2.1b", "a  bc", 3, 4)
	span(t, "-b -k2,2.1", "a  bc", 3, 4)
	span(t, "-b -k2r,2.1", "a  bc", 1, 2)
	span(t, "-b -k2,2.1b", "a  bc", 1, 4)
	span(t, "-b", "  a", 2, 3)
	span(t, "-f -k2b,2.1", "a  bc", 3, 3)
}

// P5.5: how many keys there are, and where each stands; what is asked for beside them.
func TestCountSpan(t *testing.T) {
	o := order(t, "-k2,2 -k1,1.1 -k3")
	want(t, "Count", o.Count(), 3)
	line := "abc de f"
	for i, wanted := range []api.Span{{From: 3, To: 6}, {From: 0, To: 1}, {From: 6, To: 8}} {
		want(t, "Span", o.Span(line, i), wanted)
	}
	for _, i := range []int{-1, 3, 4, 16, 1 << 40, -farOff - 1, farOff} {
		want(t, "Span", o.Span(line, i), api.Span{})
		want(t, "Filter", o.Filter(line, i), "")
	}
	want(t, "Count", order(t, "").Count(), 1)
	want(t, "Count", order(t, "-k1").Count(), 1)
	want(t, "Span", order(t, "").Span(line, 0), api.Span{From: 0, To: 8})
	want(t, "Span", order(t, "").Span(line, 1), api.Span{})
	want(t, "Count", order(t, manyOrders[len(manyOrders)-1]).Count(), 16)
}
