package merge_test

import (
	"cmp"
	"math/rand"
	"slices"
	"strings"
	"testing"
	"unsafe"

	"mill/api"
	"mill/merge"
	"mill/simfs"
	"mill/spill"
)

// want compares two values, and tells what they are of.
func want[T comparable](t *testing.T, what string, got, wanted T) {
	t.Helper()
	if got != wanted {
		t.Errorf("%s: %+v, want %+v", what, got, wanted)
	}
}

// same compares two lists; an empty one is empty, nil or not.
func same[T comparable](t *testing.T, what string, got, wanted []T) {
	t.Helper()
	if !slices.Equal(got, wanted) {
		t.Errorf("%s: %v, want %v", what, got, wanted)
	}
}

// card is an element of which the order sees the rank alone; source and number tell where it comes from.
type card struct{ rank, source, number int }

func byRank(a, b card) int { return cmp.Compare(a.rank, b.rank) }

// cards are a source's elements, of these ranks.
func cards(source int, ranks ...int) []card {
	l := make([]card, len(ranks))
	for i, r := range ranks {
		l[i] = card{r, source, i}
	}
	return l
}

// ranksOf are the ranks of cards.
func ranksOf(l []card) []int {
	var ranks []int
	for _, c := range l {
		ranks = append(ranks, c.rank)
	}
	return ranks
}

// tree makes a tree.
func tree[T any](t *testing.T, order func(a, b T) int, sources ...merge.Source[T]) *merge.Tree[T] {
	t.Helper()
	x, e := merge.New(order, sources...)
	if x == nil || e != api.OK {
		t.Fatalf("New over %d sources: %d", len(sources), e)
	}
	return x
}

// over makes a tree over lists.
func over[T any](t *testing.T, order func(a, b T) int, lists ...[]T) *merge.Tree[T] {
	t.Helper()
	sources := make([]merge.Source[T], len(lists))
	for i, l := range lists {
		sources[i] = merge.Of(l)
	}
	return tree(t, order, sources...)
}

// gives asks for the next element, which must be this one, of this source.
func gives[T comparable](t *testing.T, x *merge.Tree[T], element T, source int) {
	t.Helper()
	got, s, ok, e := x.Next()
	if got != element || s != source || !ok || e != api.OK {
		t.Errorf("Next: %v, %d, %v, %d, want %v, %d", got, s, ok, e, element, source)
	}
}

// ends asks for the next element, which must not be there, with this error of this source, or none; the same again and again, and by Err and All.
func ends[T comparable](t *testing.T, x *merge.Tree[T], source int, wanted api.Errno) {
	t.Helper()
	var none T
	for range 3 {
		got, s, ok, e := x.Next()
		if got != none || s != source || ok || e != wanted {
			t.Errorf("Next: %v, %d, %v, %d, want none, %d, %d", got, s, ok, e, source, wanted)
		}
		s, e = x.Err()
		if s != source || e != wanted {
			t.Errorf("Err: %d, %d, want %d, %d", s, e, source, wanted)
		}
		for s, got := range x.All() {
			t.Errorf("All: %d, %v, want none", s, got)
		}
	}
}

// left gives all that a tree still gives.
func left[T any](x *merge.Tree[T]) (l []T) {
	for _, e := range x.All() {
		l = append(l, e)
	}
	return l
}

// texts are all strings of at most most bytes of an alphabet, the empty one first.
func texts(alphabet string, most int) []string {
	l := []string{""}
	for from := 0; most > 0; most-- {
		to := len(l)
		for _, s := range l[from:to] {
			for i := range len(alphabet) {
				l = append(l, s+alphabet[i:i+1])
			}
		}
		from = to
	}
	return l
}

// drawn are so many lists of cards with at most so many elements each, in order, of so many ranks.
func drawn(r *rand.Rand, many, most, ranks int) [][]card {
	lists := make([][]card, many)
	for i := range lists {
		l := make([]int, r.Intn(most+1))
		for k := range l {
			l[k] = r.Intn(ranks)
		}
		slices.Sort(l)
		lists[i] = cards(i, l...)
	}
	return lists
}

// merged are the elements of lists that are in order, as the chapter says they come: by rank, then by list, then as they stood.
func merged(lists ...[]card) []card {
	all := slices.Concat(lists...)
	slices.SortStableFunc(all, func(a, b card) int {
		return cmp.Or(cmp.Compare(a.rank, b.rank), cmp.Compare(a.source, b.source), cmp.Compare(a.number, b.number))
	})
	return all
}

// system makes a system that is wide enough, with this plan.
func system(t *testing.T, c api.FsConfig) *simfs.FS {
	t.Helper()
	c.Capacity, c.Files, c.Handles = api.MaxCapacity, 100, 100
	s, e := simfs.New(c)
	if e != api.OK {
		t.Fatalf("simfs.New: %d", e)
	}
	return s
}

// runBytes gives the bytes of a run file.
func runBytes(t *testing.T, l []api.Rec) []byte {
	t.Helper()
	b, e := spill.Bytes(l, 4, false)
	if e != api.OK {
		t.Fatalf("spill.Bytes: %d", e)
	}
	return b
}

// nameOf gives the name of the file number i.
func nameOf(i int) string { return "run" + string(rune('A'+i/26)) + string(rune('a'+i%26)) }

// readers opens run files of these bytes in a system.
func readers(t *testing.T, s *simfs.FS, files ...[]byte) []*spill.Reader {
	t.Helper()
	l := make([]*spill.Reader, len(files))
	for i, b := range files {
		want(t, "Put", s.Put(nameOf(i), b), api.OK)
		f, e := s.Open(nameOf(i), api.ModeRead)
		if e != api.OK {
			t.Fatalf("Open(%s): %d", nameOf(i), e)
		}
		if l[i], e = spill.Open(f, 8); e != api.OK {
			t.Fatalf("spill.Open(%s): %d", nameOf(i), e)
		}
	}
	return l
}

// runsOf opens run files of these records.
func runsOf(t *testing.T, lists ...[]api.Rec) []*spill.Reader {
	t.Helper()
	files := make([][]byte, len(lists))
	for i, l := range lists {
		files[i] = runBytes(t, l)
	}
	return readers(t, system(t, api.FsConfig{}), files...)
}

// rec is a record.
func rec(seq uint64, line string) api.Rec { return api.Rec{Seq: seq, Line: line} }

// keep gives a put that takes all, and where it lays them.
func keep() (func(api.Rec) api.Errno, *[]api.Rec) {
	var l []api.Rec
	return func(r api.Rec) api.Errno {
		l = append(l, r)
		return api.OK
	}, &l
}

// files merges run files of these records, of which none is refused.
func files(t *testing.T, order func(a, b string) int, unique bool, lists ...[]api.Rec) []api.Rec {
	t.Helper()
	put, got := keep()
	n, e := merge.Files(order, unique, put, runsOf(t, lists...)...)
	want(t, "Files", e, api.OK)
	want(t, "Files", n, len(*got))
	return *got
}

// byLetter is an order of lines by their first bytes, small letters as large ones.
func byLetter(a, b string) int {
	return strings.Compare(strings.ToUpper(a[:min(len(a), 1)]), strings.ToUpper(b[:min(len(b), 1)]))
}

// memory is where a list lies, spare room included: from its first byte up to, but without, its last.
type memory struct{ from, to uintptr }

func ofList[T any](l []T) memory {
	var one T
	from := uintptr(unsafe.Pointer(unsafe.SliceData(l)))
	return memory{from, from + uintptr(cap(l))*unsafe.Sizeof(one)}
}

// apart tells that no two of these share memory.
func apart(t *testing.T, what string, l ...memory) {
	t.Helper()
	for i, a := range l {
		for k, b := range l[i+1:] {
			if a.from < a.to && b.from < b.to && a.from < b.to && b.from < a.to {
				t.Errorf("%s: %d and %d share memory", what, i, i+1+k)
			}
		}
	}
}

// roomy gives a copy of a list with spare room behind it that holds a mark.
func roomy[T any](l []T, mark T) []T {
	r := make([]T, len(l), len(l)+5)
	copy(r, l)
	spare := r[len(l):cap(r)]
	for i := range spare {
		spare[i] = mark
	}
	return r
}

// untouched tells that a list that roomy gave is as it was.
func untouched[T comparable](t *testing.T, what string, got, l []T, mark T) {
	t.Helper()
	for i, x := range got[:cap(got)] {
		if i < len(l) && x != l[i] || i >= len(l) && x != mark {
			t.Errorf("%s: item %d has been changed", what, i)
			return
		}
	}
}
