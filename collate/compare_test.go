package collate_test

import (
	"slices"
	"strings"
	"testing"

	"mill/api"
	"mill/collate"
)

// P5.7: text.
func TestKeysText(t *testing.T) {
	compares(t, "", "", "", 0, 0)
	compares(t, "", "", "\x00", -1, -1)
	compares(t, "", "a\x7f", "a\x80", -1, -1)
	compares(t, "", "Z", "a", -1, -1)
	compares(t, "", "é", "z", 1, 1)
	compares(t, "-f", "ab", "AC", -1, -1)
	compares(t, "-f", "b", "A", 1, 1)
	compares(t, "-f", "_", "a", 1, 1) // a counts as A, which is below it
	compares(t, "-f", "ab", "AB", 0, 1)
	compares(t, "-f", "é", "É", 1, 1)
	compares(t, "-d", "a-c", "ab", 1, 1)
	compares(t, "-d", "a-b", "ab", 0, -1)
	compares(t, "-d", "ab--", "ab", 0, 1)
	compares(t, "-d", "--", "", 0, 1)
	compares(t, "-d", "--a", "", 1, 1)
	compares(t, "-d", "ab-", "abc", -1, -1)
	compares(t, "-d", "-ab", "ab-c", -1, -1)
	compares(t, "-i", "\x01b", "a", 1, 1)
	compares(t, "-i", "a\x01\tb", "ab", 0, -1)
	compares(t, "-di", "a\x01\tb", "ab", -1, -1)
	compares(t, "-df", "-a b", "A-B", -1, -1)
	compares(t, "-b", "  b", "a", 1, 1)
	compares(t, "-b", "  a", "\ta", 0, 1)
	compares(t, "-s", "a", "a ", -1, -1)
}

// P5.7: numbers, of the span's bytes as they stand: what is behind the span does not count, and neither does f.
func TestKeysNumbers(t *testing.T) {
	compares(t, "-n", "9", "10", -1, -1)
	compares(t, "-n", " 9x", "9.0", 0, -1)
	compares(t, "-n", "x", "-1", 1, 1)
	compares(t, "-k1.1,1.2n", "123", "129", 0, -1)
	compares(t, "-k1.2n", "91", "19", -1, -1)
	compares(t, "-k1,1.1n -s", "-9", "-1", 0, 0)
	compares(t, "-t1 -k1,1n", "213", "214", 0, -1)
	compares(t, "-g", "1e3", "1000", 0, 1)
	compares(t, "-g", "x", "nan", -1, -1)
	compares(t, "-g", "2", "1e1", -1, -1)
	compares(t, "-k1,1.1g", "1e3", "1000", 0, 1)
	compares(t, "-n", "2", "1e1", 1, 1)
	compares(t, "-h", "2000M", "1G", -1, -1)
	compares(t, "-h", "1k", "1K", 0, 1)
	compares(t, "-hf", "3m", "2M", -1, -1) // with F at work 3m would be above
	compares(t, "-hf", "1m", "1", 0, 1)
	compares(t, "-k1.1,1.1h", "2M", "1G", 1, 1)
	compares(t, "-M", " january", "FEB", -1, -1)
	compares(t, "-M", "x", "jan", -1, -1)
	compares(t, "-M", "JAN", "jan", 0, -1)
	compares(t, "-k1.1,1.2M", "jan", "feb", 0, 1)
	compares(t, "-nf", "1a", "1A", 0, 1)
	compares(t, "-gf", "1E1", "1e1", 0, -1)
}

// P5.7: versions, of the Filters.
func TestKeysVersions(t *testing.T) {
	compares(t, "-V", "a1.9", "a1.10", -1, -1)
	compares(t, "-V", "a1.9", "A1.10", 1, 1)
	compares(t, "-Vf", "a1.9", "A1.10", -1, -1)
	compares(t, "-Vf", "a1", "A1", 0, 1)
	compares(t, "-V", "a~", "a", -1, -1)
	compares(t, "-Vr", "a~", "a", 1, 1)
	compares(t, "-V", "a01", "a1", 0, -1)
	compares(t, "-V", "Z", "a", -1, -1)
	compares(t, "-Vf", "z", "_", -1, -1)
	compares(t, "-k2,2V", "b x9 c", "a x10 d", -1, -1)
}

// P5.7: r turns a key round, and no other one.
func TestKeysReverse(t *testing.T) {
	for _, kind := range []string{"", "f", "d", "n", "g", "h", "V", "i"} {
		compares(t, "-k1,1r"+kind, "1", "2", 1, 1)
		compares(t, "-k1,1"+kind, "1", "2", -1, -1)
	}
	compares(t, "-k1,1rM", "jan", "feb", 1, 1)
	compares(t, "-k1,1r -k2,2", "a b", "a c", -1, -1)
	compares(t, "-k1,1 -k2,2r", "a b", "a c", 1, 1)
	compares(t, "-r -k1,1n -k2,2", "1 b", "1 c", 1, 1)
	compares(t, "-r -k1,1n -k2,2", "1 b", "2 b", -1, -1)
}

// P5.7: the first key that tells lines apart decides.
func TestKeysInTurn(t *testing.T) {
	compares(t, "-k2,2 -k1,1", "b 1", "a 2", -1, -1)
	compares(t, "-k2,2 -k1,1", "b 1", "a 1", 1, 1)
	compares(t, "-k2,2n -k1,1f -k3r", "a 1.0 x", "A 1 y", 1, 1)
	compares(t, "-k2,2n -k1,1f -k3,3r", "a 1.0 x", "A 1 x", 0, 1)
	compares(t, "-t, -k2,2 -k3,3", "x,a,c", "y,a,b", 1, 1)
	compares(t, "-t, -k2,2", "x,a,c", "y,a,b", 0, -1)
	last := order(t, manyOrders[len(manyOrders)-1])
	want(t, "the 16th key", last.Keys("a b", "a c"), 1)
}

// P5.8: what decides where no key does.
func TestCompareWholeLines(t *testing.T) {
	for _, c := range []struct {
		words string
		whole int
	}{
		{"-k1,1", -1}, {"-k1,1 -r", 1}, {"-k1,1r", -1}, {"-k1,1n -r", 1}, {"-k1,1r -r", 1}, {"-k1,1f", -1},
		{"-k1,1 -s", 0}, {"-k1,1 -u", 0}, {"-k1,1 -su", 0}, {"-k1,1 -sr", 0}, {"-k1,1 -ur", 0},
	} {
		compares(t, c.words, "a b", "a c", 0, c.whole)
		compares(t, c.words, "a", "a b", 0, c.whole)
		compares(t, c.words, "a", "a", 0, 0)
	}
	// Whole lines are compared as they stand, whatever the modifiers.
	compares(t, "-dfb -k2,2", "a-b", "aA", 0, -1)
	compares(t, "-n -k2,2", "10", "9", 0, -1)
	compares(t, "-M", " x", "X", 0, -1)
}

// preorder holds that a comparison of these lines is a total preorder.
func preorder(t *testing.T, what string, compare func(a, b string) int, lines []string) {
	t.Helper()
	n := len(lines)
	table := make([]int, n*n)
	for i, a := range lines {
		for k, b := range lines {
			c := compare(a, b)
			table[i*n+k] = c
			if c < -1 || c > 1 || i == k && c != 0 || k < i && table[k*n+i] != -c {
				t.Errorf("%s: %q, %q: %d", what, a, b, c)
				return
			}
		}
	}
	for i := range n {
		for k := range n {
			if table[i*n+k] > 0 {
				continue
			}
			for m := range n {
				if table[k*n+m] <= 0 && table[i*n+m] > 0 {
					t.Errorf("%s: %q, %q, %q", what, lines[i], lines[k], lines[m])
					return
				}
			}
		}
	}
}

// someLines are lines on which the orders differ in all their ways.
func someLines() []string {
	l := append(strange(9, 90), "", " ", "a", "A", "ab", "aB", "a b", "a  b", " a b", "a,b", "a, b", ",", ",,", "1", "01", "1.0", "-1", "-0", "0", "1e0", "1K", "1000", "-1K", "nan", "inf", "-inf", "jan", "Feb", "x1.9", "x1.10", "x~", "x", "\x00", "\xff")
	slices.Sort(l)
	return slices.Compact(l)
}

// P5.9: Compare and Keys are total preorders.
func TestPreorders(t *testing.T) {
	lines := someLines()
	for _, words := range manyOrders {
		o := order(t, words)
		preorder(t, "Compare by "+words, o.Compare, lines)
		preorder(t, "Keys by "+words, o.Keys, lines)
	}
}

// P5.8, P5.9: without Stable and Unique 0 comes of a line with itself alone; with one of them Compare is Keys.
func TestCompareZero(t *testing.T) {
	lines := someLines()
	for _, words := range manyOrders {
		o := argv(t, strings.Fields(words)...)
		plain, stable, unique := o, o, o
		plain.Stable, plain.Unique, stable.Stable, unique.Unique = false, false, true, true
		p, s, u := made(t, plain), made(t, stable), made(t, unique)
		for _, a := range lines {
			for _, b := range lines {
				want(t, words+" -s", s.Compare(a, b), p.Keys(a, b))
				want(t, words+" -u", u.Compare(a, b), p.Keys(a, b))
				want(t, words, p.Compare(a, b) == 0, a == b)
			}
		}
	}
}

// R1: an order that the package did not make does not panic.
func TestZeroOrder(t *testing.T) {
	o := new(collate.Order)
	o.Count()
	o.Span("a", 0)
	o.Filter("a", 0)
	o.Keys("a", "b")
	o.Compare("a", "b")
	o.Transform("a")
	o.Sort([]api.Rec{{Line: "b"}, {Line: "a"}})
}
