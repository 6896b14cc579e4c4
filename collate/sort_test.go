package collate_test

import (
	"math/rand"
	"slices"
	"strings"
	"testing"

	"mill/api"
	"mill/collate"
)

// recs makes records of lines, numbered as they stand.
func recs(lines ...string) []api.Rec {
	l := make([]api.Rec, len(lines))
	for i, line := range lines {
		l[i] = api.Rec{Seq: uint64(i), Line: strings.Clone(line)}
	}
	return l
}

// modelSort takes of what is left, again and again, what nothing else is ahead of.
func modelSort(o *collate.Order, l []api.Rec) (out []api.Rec) {
	left := slices.Clone(l)
	for len(left) > 0 {
		first := 0
		for i, r := range left {
			c := o.Compare(r.Line, left[first].Line)
			if c < 0 || c == 0 && r.Seq < left[first].Seq {
				first = i
			}
		}
		out = append(out, left[first])
		left = slices.Delete(left, first, first+1)
	}
	return out
}

// sorts holds what Sort gives of records, and that it leaves them as they are, spare room included.
func sorts(t *testing.T, what string, o *collate.Order, l, wanted []api.Rec) {
	t.Helper()
	l = append(slices.Clone(l), api.Rec{Seq: 99, Line: "spare"}, api.Rec{Seq: 98, Line: "room"})
	before := slices.Clone(l)
	n := len(l) - 2
	got := o.Sort(l[:n])
	if !slices.Equal(got, wanted) {
		t.Errorf("Sort by %s of %v: %v, want %v", what, l[:n], got, wanted)
	}
	if !slices.Equal(l, before) {
		t.Errorf("Sort by %s has changed its records", what)
	}
}

// P5.11: a few records, by hand.
func TestSort(t *testing.T) {
	sorts(t, "", order(t, ""), nil, nil)
	sorts(t, "", order(t, ""), []api.Rec{}, nil)
	sorts(t, "", order(t, ""), recs("b"), []api.Rec{{Seq: 0, Line: "b"}})
	sorts(t, "", order(t, ""), recs("b", "", "a", "b"), []api.Rec{{Seq: 1, Line: ""}, {Seq: 2, Line: "a"}, {Seq: 0, Line: "b"}, {Seq: 3, Line: "b"}})
	sorts(t, "-r", order(t, "-r"), recs("b", "", "a", "b"), []api.Rec{{Seq: 0, Line: "b"}, {Seq: 3, Line: "b"}, {Seq: 2, Line: "a"}, {Seq: 1, Line: ""}})
	sorts(t, "-n", order(t, "-n"), recs("10", "9", "x", "-1"), []api.Rec{{Seq: 3, Line: "-1"}, {Seq: 2, Line: "x"}, {Seq: 1, Line: "9"}, {Seq: 0, Line: "10"}})
	// Without Stable whole lines decide; Unique leaves none out here.
	sorts(t, "-f", order(t, "-f"), recs("b", "a", "B", "A"), []api.Rec{{Seq: 3, Line: "A"}, {Seq: 1, Line: "a"}, {Seq: 2, Line: "B"}, {Seq: 0, Line: "b"}})
	sorts(t, "-fs", order(t, "-fs"), recs("b", "a", "B", "A"), []api.Rec{{Seq: 1, Line: "a"}, {Seq: 3, Line: "A"}, {Seq: 0, Line: "b"}, {Seq: 2, Line: "B"}})
	sorts(t, "-fu", order(t, "-fu"), recs("b", "a", "B", "A"), []api.Rec{{Seq: 1, Line: "a"}, {Seq: 3, Line: "A"}, {Seq: 0, Line: "b"}, {Seq: 2, Line: "B"}})
}

// P5.11: equal lines go by their numbers, not by where they stand, and those of one number as they stand; numbers rise also under r.
func TestSortNumbers(t *testing.T) {
	const top = 1<<64 - 1
	l := []api.Rec{{Seq: top, Line: "a"}, {Seq: 3, Line: "A"}, {Seq: 1 << 63, Line: "a"}, {Seq: 3, Line: "a"}, {Seq: 0, Line: "b"}, {Seq: 3, Line: "A"}, {Seq: 0, Line: "a"}}
	sorts(t, "-fs", order(t, "-fs"), l, []api.Rec{l[6], l[1], l[3], l[5], l[2], l[0], l[4]})
	sorts(t, "-fsr", order(t, "-fsr"), l, []api.Rec{l[4], l[6], l[1], l[3], l[5], l[2], l[0]})
	sorts(t, "", order(t, ""), l, []api.Rec{l[1], l[5], l[6], l[3], l[2], l[0], l[4]})
	sorts(t, "-r", order(t, "-r"), l, []api.Rec{l[4], l[6], l[3], l[2], l[0], l[1], l[5]})
}

// P5.11: records of any orders and lines, with numbers that rise, fall and meet.
func TestSortAgainstTheModel(t *testing.T) {
	r := rand.New(rand.NewSource(12))
	lines := strange(13, 300)
	for i := range 600 {
		options := anyOptions(r)
		o := made(t, options)
		l := make([]api.Rec, r.Intn(1+i%40))
		for k := range l {
			l[k] = api.Rec{Seq: uint64(r.Intn(6)), Line: lines[r.Intn(1+r.Intn(len(lines)))]}
		}
		sorts(t, "drawn options", o, l, modelSort(o, l))
		if t.Failed() {
			t.Logf("%+v", options)
			return
		}
	}
}

// P5.11: all short lists of lines of which many are equal.
func TestSortShortLists(t *testing.T) {
	o := order(t, "-fs")
	for _, s := range texts("abA", 7) {
		l := recs(strings.Split(s, "")...)
		sorts(t, "-fs", o, l, modelSort(o, l))
	}
}

// P5.11: many records; Compare of each with the next, and their numbers, tell that they are in order.
func TestSortMany(t *testing.T) {
	for _, words := range []string{"", "-fs", "-k2,2n -r", "-V"} {
		o := order(t, words)
		l := recs(strange(14, 30000)...)
		out := o.Sort(l)
		want(t, "records", len(out), len(l))
		for i := range out[1:] {
			c := o.Compare(out[i].Line, out[i+1].Line)
			if c > 0 || c == 0 && out[i].Seq >= out[i+1].Seq {
				t.Fatalf("%s: %v ahead of %v", words, out[i], out[i+1])
			}
		}
		for _, r := range out {
			if l[r.Seq].Line != r.Line {
				t.Fatalf("%s: %v was not there", words, r)
			}
		}
	}
}

// R4: what Sort gives shares nothing with what it took, nor with another answer.
func TestSortSharesNothing(t *testing.T) {
	o := order(t, "")
	for _, lines := range [][]string{{"one"}, {"b", "a", "b"}, {"c", "a", "b", "longer lines", "d"}} {
		l := slices.Grow(recs(lines...), 3)
		a, b := o.Sort(l), o.Sort(l)
		apart(t, "Sort", slices.Concat(ofRecs(l), ofRecs(a), ofRecs(b)))
		kept := slices.Clone(b)
		_ = append(a[:0], make([]api.Rec, len(a))...)
		if !slices.Equal(b, kept) || !slices.Equal(o.Sort(l), kept) {
			t.Errorf("Sort: %v, want %v", b, kept)
		}
	}
}
