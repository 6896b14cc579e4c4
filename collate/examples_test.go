package collate_test

import (
	"fmt"
	"slices"
	"testing"

	"mill/api"
	"mill/collate"
)

// fields holds a line's fields against pairs of places.
func fields(t *testing.T, line string, tab int, wanted ...api.Span) {
	t.Helper()
	if l := collate.Fields(line, tab); !slices.Equal(l, wanted) {
		t.Errorf("Fields(%q, %d): %v, want %v", line, tab, l, wanted)
	}
}

// span holds where an order's only key stands against a pair of places.
func span(t *testing.T, words, line string, from, to int) {
	t.Helper()
	want(t, fmt.Sprintf("Span by %s of %q", words, line), order(t, words).Span(line, 0), api.Span{From: from, To: to})
}

func filter(t *testing.T, words, line, wanted string) {
	t.Helper()
	want(t, fmt.Sprintf("Filter by %s of %q", words, line), order(t, words).Filter(line, 0), wanted)
}

// compares holds what an order says of two lines, both ways round, against the model's words.
func compares(t *testing.T, words, a, b string, keys, whole int) {
	t.Helper()
	o := order(t, words)
	what := fmt.Sprintf("%s of %q and %q", words, a, b)
	want(t, "Keys by "+what, o.Keys(a, b), keys)
	want(t, "Keys back by "+what, o.Keys(b, a), -keys)
	want(t, "Compare by "+what, o.Compare(a, b), whole)
	want(t, "Compare back by "+what, o.Compare(b, a), -whole)
}

// Example 1.
func TestExample1(t *testing.T) {
	fields(t, "  a b ", -1, api.Span{From: 0, To: 3}, api.Span{From: 3, To: 5}, api.Span{From: 5, To: 6})
	fields(t, "a,,b", 44, api.Span{From: 0, To: 1}, api.Span{From: 2, To: 2}, api.Span{From: 3, To: 4})
	fields(t, "", -1)
	fields(t, "", 44, api.Span{})
}

// Example 2.
func TestExample2(t *testing.T) {
	span(t, "-k2,2", "  a b ", 3, 5)
	span(t, "-k2b,2", "  a b ", 4, 5)
	span(t, "-k2.2", "  a b ", 4, 6)
}

// Example 3.
func TestExample3(t *testing.T) {
	span(t, "-k1.2,1.1", "abc", 1, 1)
	span(t, "-k1.3,1.1", "abc", 2, 2)
}

// Example 4.
func TestExample4(t *testing.T) {
	span(t, "-k9", "a b", 3, 3)
	span(t, "-k1,9.4", "a b", 0, 3)
}

// Example 5.
func TestExample5(t *testing.T) {
	span(t, "-t, -k2,2", "a,bc,d", 2, 4)
	span(t, "-t, -k2,2.1", "a,bc,d", 2, 3)
	span(t, "-t, -k2,2.5", "a,bc,d", 2, 6)
}

// Example 6.
func TestExample6(t *testing.T) {
	filter(t, "-d", "a-b C", "ab C")
	filter(t, "-df", "a-b C", "AB C")
	filter(t, "-i", "a\x01b\tc", "abc")
	filter(t, "-di", "a\x01b\tc", "ab\tc")
}

// Example 7.
func TestExample7(t *testing.T) {
	compares(t, "", "b", "a", 1, 1)
	compares(t, "", "a", "ab", -1, -1)
	compares(t, "-r", "b", "a", -1, -1)
	compares(t, "-r", "a", "ab", 1, 1)
}

// Example 8.
func TestExample8(t *testing.T) {
	compares(t, "-k1f", "a", "A", 0, 1)
	compares(t, "-k1f -s", "a", "A", 0, 0)
	compares(t, "-k1f -u", "a", "A", 0, 0)
	compares(t, "-k1f -r", "a", "A", 0, -1)
}

// Example 9.
func TestExample9(t *testing.T) {
	o := made(t, api.Options{Tab: -1, Mods: api.ModN, Keys: []api.Key{{Field: 2, Char: 1, EndField: 2}, {Field: 1, Char: 1, EndField: 1, Mods: api.ModR}}})
	want(t, "numbers", o.Keys("a 9", "b 10"), -1)
	want(t, "text", o.Keys("9 1", "10 1"), -1)
	want(t, "text", o.Keys("a 1", "b 1.0"), 1)
}

// Example 10.
func TestExample10(t *testing.T) {
	refused(t, api.Options{Tab: -1, Mods: api.ModN | api.ModG})
	refused(t, api.Options{Tab: -1, Mods: api.ModV | api.ModD})
	made(t, api.Options{Tab: -1, Mods: api.ModN | api.ModD, Keys: []api.Key{{Field: 1, Char: 1, Mods: api.ModM}}})
	made(t, api.Options{Tab: -1, Mods: api.ModN | api.ModF})
	o := made(t, api.Options{Tab: -1, Mods: api.ModV | api.ModF})
	want(t, "Filter", o.Filter("a1.9", 0), "A1.9")
	want(t, "Keys", o.Keys("a1.9", "A1.10"), -1)
	want(t, "Keys", o.Keys("A1.10", "a1.9"), 1)
	want(t, "Keys", o.Keys("a1.09", "A1.9"), 0)
}
