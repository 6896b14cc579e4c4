package merge_test

import (
	"cmp"
	"math/rand"
	"slices"
	"strings"
	"testing"

	"mill/api"
	"mill/merge"
	"mill/spill"
)

// taken is a record with the number of the reader from which it came.
type taken struct {
	rec    api.Rec
	reader int
}

// mergedRecs are the records of runs, as P9.7 says they come, by other means: what each run has in front is gone through each time.
func mergedRecs(order func(a, b string) int, lists ...[]api.Rec) (out []taken) {
	rest := slices.Clone(lists)
	for {
		first := -1
		for i, l := range rest {
			if len(l) > 0 && (first < 0 || cmp.Or(order(l[0].Line, rest[first][0].Line), cmp.Compare(l[0].Seq, rest[first][0].Seq)) < 0) {
				first = i
			}
		}
		if first < 0 {
			return out
		}
		out = append(out, taken{rest[first][0], first})
		rest[first] = rest[first][1:]
	}
}

// puts are the records that put gets of these.
func puts(order func(a, b string) int, unique bool, l []taken) (out []api.Rec) {
	for _, x := range l {
		if !unique || len(out) == 0 || order(out[len(out)-1].Line, x.rec.Line) != 0 {
			out = append(out, x.rec)
		}
	}
	return out
}

// drawnRuns are so many runs of records whose lines are in order by their first letters; their numbers are drawn.
func drawnRuns(r *rand.Rand, many, most int) [][]api.Rec {
	lists := make([][]api.Rec, many)
	for i := range lists {
		for range r.Intn(most + 1) {
			lists[i] = append(lists[i], rec(uint64(r.Intn(6))<<(r.Intn(2)*61), []string{"", "a", "A", "ab", "B", "b", "c"}[r.Intn(7)]))
		}
		slices.SortFunc(lists[i], func(a, b api.Rec) int { return cmp.Or(byLetter(a.Line, b.Line), cmp.Compare(a.Seq, b.Seq)) })
	}
	return lists
}

// P9.7: who is refused, which of two errors comes first, and that nothing is put and no reader asked.
func TestFilesRefusals(t *testing.T) {
	s := system(t, api.FsConfig{})
	r := readers(t, s, runBytes(t, []api.Rec{rec(1, "a")}))[0]
	put := func(api.Rec) api.Errno {
		t.Error("put is called")
		return api.OK
	}
	calls := s.Stats().Calls
	few, limit, above := slices.Repeat([]*spill.Reader{r}, 3), slices.Repeat([]*spill.Reader{r}, api.MaxFan), slices.Repeat([]*spill.Reader{r}, api.MaxFan+1)
	withNil := func(l []*spill.Reader, at int) []*spill.Reader {
		l = slices.Clone(l)
		l[at] = nil
		return l
	}
	refused := func(what string, order func(a, b string) int, put func(api.Rec) api.Errno, in []*spill.Reader, wanted api.Errno) {
		t.Helper()
		for _, unique := range []bool{false, true} {
			n, e := merge.Files(order, unique, put, in...)
			want(t, what, n, 0)
			want(t, what, e, wanted)
		}
	}
	for at := range few {
		refused("a nil reader", cmp.Compare, put, withNil(few, at), api.ErrNil)
	}
	for at := range above {
		refused("a nil reader of too many", cmp.Compare, put, withNil(above, at), api.ErrNil)
	}
	refused("the last of as many as may be is nil", cmp.Compare, put, withNil(limit, api.MaxFan-1), api.ErrNil)
	refused("too many", cmp.Compare, put, above, api.ErrFan)
	for _, in := range [][]*spill.Reader{nil, few, withNil(few, 0), above, withNil(above, 64)} {
		refused("no order", nil, put, in, api.ErrArg)
		refused("no put", cmp.Compare, nil, in, api.ErrArg)
		refused("neither", nil, nil, in, api.ErrArg)
	}
	want(t, "calls", s.Stats().Calls, calls)
	got, ok, e := r.Next()
	want(t, "the record is there still", got, rec(1, "a"))
	want(t, "the record is there still", ok && e == api.OK, true)
}

// P9.7: no readers and readers without records give none; one gives its own, in whatever order they are.
func TestFilesOfFew(t *testing.T) {
	for _, unique := range []bool{false, true} {
		same(t, "no readers", files(t, cmp.Compare, unique), nil)
		same(t, "no records", files(t, cmp.Compare, unique, nil, nil), nil)
		one := []api.Rec{rec(3, "b"), rec(2, "a"), rec(1, "c"), rec(1<<64-1, "")}
		same(t, "one reader", files(t, cmp.Compare, unique, one), one)
	}
	same(t, "the first line is empty", files(t, cmp.Compare, true, []api.Rec{rec(0, ""), rec(1, "")}, []api.Rec{rec(2, ""), rec(3, "a")}), []api.Rec{rec(0, ""), rec(3, "a")})
}

// P9.7: lines that count as one go by their numbers, all 64 bits of them, and of one number by the readers.
func TestFilesTies(t *testing.T) {
	got := files(t, byLetter, false,
		[]api.Rec{rec(5, "a1"), rec(1<<63, "a2"), rec(0, "b1")},
		[]api.Rec{rec(5, "A3"), rec(6, "A4"), rec(0, "B2")},
		[]api.Rec{rec(4, "a5"), rec(5, "a6"), rec(1<<64-1, "a7"), rec(0, "b3"), rec(1, "b4")})
	same(t, "Files", got, []api.Rec{rec(4, "a5"), rec(5, "a1"), rec(5, "A3"), rec(5, "a6"), rec(6, "A4"), rec(1<<63, "a2"), rec(1<<64-1, "a7"), rec(0, "b1"), rec(0, "B2"), rec(0, "b3"), rec(1, "b4")})
	got = files(t, byLetter, true,
		[]api.Rec{rec(5, "a1"), rec(0, "b1")},
		[]api.Rec{rec(4, "A3"), rec(0, "B2")})
	same(t, "Files, unique", got, []api.Rec{rec(4, "A3"), rec(0, "b1")})
}

// P9.7: with unique a line is held against that of the record that was put last.
func TestFilesUniqueAgainstWhatWasPut(t *testing.T) {
	near := func(a, b string) int {
		if n := int(a[0]) - int(b[0]); n < -1 || n > 1 {
			return n
		}
		return 0
	}
	got := files(t, near, true, []api.Rec{rec(0, "1"), rec(1, "2"), rec(2, "3"), rec(3, "4"), rec(4, "5"), rec(5, "9")})
	same(t, "Files", got, []api.Rec{rec(0, "1"), rec(2, "3"), rec(4, "5"), rec(5, "9")})
}

// P9.7: many runs against the second model, and against Lists.
func TestFilesDrawn(t *testing.T) {
	r := rand.New(rand.NewSource(10))
	for range 400 {
		lists := drawnRuns(r, r.Intn(12), 9)
		for name, order := range map[string]func(a, b string) int{"by letter": byLetter, "as they are": strings.Compare, "all alike": func(a, b string) int { return 0 }} {
			all := mergedRecs(order, lists...)
			same(t, name, files(t, order, false, lists...), puts(order, false, all))
			same(t, name+", unique", files(t, order, true, lists...), puts(order, true, all))
			l, _ := merge.Lists(func(a, b api.Rec) int { return cmp.Or(order(a.Line, b.Line), cmp.Compare(a.Seq, b.Seq)) }, false, lists...)
			same(t, name+", as Lists", l, puts(order, false, all))
		}
	}
}

// P9.7: as many readers as there may be, with lines as long as may be among them.
func TestFilesOfMany(t *testing.T) {
	r := rand.New(rand.NewSource(11))
	lists := drawnRuns(r, api.MaxFan, 20)
	lists[7] = []api.Rec{rec(1, strings.Repeat("b", api.MaxLine)), rec(2, strings.Repeat("c", api.MaxLine))}
	all := mergedRecs(byLetter, lists...)
	for _, unique := range []bool{false, true} {
		same(t, "Files", files(t, byLetter, unique, lists...), puts(byLetter, unique, all))
	}
}

// P9.7: readers are asked as a tree asks its sources: where put ends it, each of them has given what it had to, and no more.
func TestFilesAsksAsATree(t *testing.T) {
	r := rand.New(rand.NewSource(12))
	for range 60 {
		lists := drawnRuns(r, 1+r.Intn(6), 6)
		all := mergedRecs(byLetter, lists...)
		for _, unique := range []bool{false, true} {
			wanted := puts(byLetter, unique, all)
			for stop := range wanted {
				in := runsOf(t, lists...)
				var got []api.Rec
				n, e := merge.Files(byLetter, unique, func(x api.Rec) api.Errno {
					if len(got) == stop {
						return -5
					}
					got = append(got, x)
					return api.OK
				}, in...)
				want(t, "Files", n, stop)
				want(t, "Files", e, -5)
				same(t, "what was put", got, wanted[:stop])
				// The record that put refused is gone too; of each reader one more is in hand, unless the reader gave the refused one.
				gave := make([]int, len(lists))
				for _, x := range all {
					gave[x.reader]++
					if x.rec == wanted[stop] && len(puts(byLetter, unique, all[:sum(gave)])) == stop+1 {
						gave[x.reader]--
						break
					}
				}
				for i, reader := range in {
					x, ok, _ := reader.Next()
					from := gave[i] + 1
					want(t, "a record is left", ok, from < len(lists[i]))
					if ok && from < len(lists[i]) {
						want(t, "the next record", x, lists[i][from])
					}
				}
			}
		}
	}
}

func sum(l []int) (n int) {
	for _, x := range l {
		n += x
	}
	return n
}

// P9.7: a reader that answers an error ends it, be its run cut off or changed anywhere behind its head; what came ahead has been put, as often as the answer says.
func TestFilesWithSpoiltRuns(t *testing.T) {
	lists := [][]api.Rec{
		{rec(0, "a"), rec(1, "c"), rec(2, "e")}, {rec(3, "b"), rec(4, "d"), rec(5, "f")}, {rec(6, "b"), rec(7, "c"), rec(8, "g")},
	}
	faults := map[api.Errno]int{}
	for i := range lists {
		whole := runBytes(t, lists[i])
		for at := 14; at < len(whole); at++ {
			turned := slices.Clone(whole)
			turned[at] ^= 4
			for _, bad := range [][]byte{whole[:at], turned} {
				faults[endsAtFault(t, lists, i, bad)]++
				if t.Failed() {
					t.Fatalf("run %d, cut or changed at %d", i, at)
				}
			}
		}
	}
	want(t, "runs that are torn and that are spoilt are among them", faults[api.ErrTorn] > 0 && faults[api.ErrSpoilt] > 0 && len(faults) == 2, true)
}

// endsAtFault merges run files of lists, but of the number i these bytes, and tells with which error it ended.
func endsAtFault(t *testing.T, lists [][]api.Rec, i int, bad []byte) api.Errno {
	t.Helper()
	ahead, _, _, fault := spill.Scan(bad)
	// The records ahead of the fault come; when the last of them has been put, the fault is found.
	bent := slices.Clone(lists)
	bent[i] = ahead
	var wanted []api.Rec
	left := len(ahead)
	for _, x := range mergedRecs(cmp.Compare, bent...) {
		if left == 0 {
			break
		}
		wanted = append(wanted, x.rec)
		if x.reader == i {
			left--
		}
	}
	all := make([][]byte, len(lists))
	for k := range lists {
		all[k] = runBytes(t, lists[k])
	}
	all[i] = bad
	put, got := keep()
	n, e := merge.Files(cmp.Compare, false, put, readers(t, system(t, api.FsConfig{}), all...)...)
	want(t, "Files", e, fault)
	want(t, "Files", n, len(wanted))
	same(t, "what was put", *got, wanted)
	return e
}

// P9.7: a Read that is refused, whichever it is, ends it with the file system's error, and no more Reads are made.
func TestFilesWithFaults(t *testing.T) {
	lists := [][]api.Rec{{rec(0, "a"), rec(2, "c"), rec(4, "e")}, {rec(1, "b"), rec(3, "d"), rec(5, "f")}}
	data := [][]byte{runBytes(t, lists[0]), runBytes(t, lists[1])}
	all := puts(cmp.Compare, false, mergedRecs(cmp.Compare, lists...))
	for nth := 1; ; nth++ {
		s := system(t, api.FsConfig{})
		in := readers(t, s, data...)
		want(t, "Arm", s.Arm(api.FsConfig{Faults: []api.Fault{{Op: api.OpRead, Nth: nth}}}), api.OK)
		put, got := keep()
		n, e := merge.Files(cmp.Compare, false, put, in...)
		want(t, "Files", n, len(*got))
		if e == api.OK {
			same(t, "what was put", *got, all)
			want(t, "refused Reads", nth > 20, true)
			return
		}
		want(t, "Files", e, api.ErrIO)
		same(t, "what was put", *got, all[:len(*got)])
		want(t, "Reads", s.Stats().By[api.OpRead], nth)
		want(t, "calls", s.Stats().Calls, nth)
	}
}

// P9.7: a reader whose error stands already ends it ahead of all; one that has been read in part gives the rest.
func TestFilesOfUsedReaders(t *testing.T) {
	in := runsOf(t, []api.Rec{rec(0, "a"), rec(2, "c")}, []api.Rec{rec(1, "b")})
	in[0].Next()
	put, got := keep()
	n, e := merge.Files(cmp.Compare, false, put, in...)
	want(t, "Files", n, 2)
	want(t, "Files", e, api.OK)
	same(t, "what was put", *got, []api.Rec{rec(1, "b"), rec(2, "c")})
	n, e = merge.Files(cmp.Compare, false, put, in...)
	want(t, "Files at the end", n, 0)
	want(t, "Files at the end", e, api.OK)
	whole := runBytes(t, []api.Rec{rec(0, "a")})
	torn := readers(t, system(t, api.FsConfig{}), whole, whole[:20])
	for range 2 {
		put, got = keep()
		n, e = merge.Files(cmp.Compare, false, put, torn...)
		want(t, "Files", n, 0)
		want(t, "Files", e, api.ErrTorn)
		same(t, "what was put", *got, nil)
	}
}

// P9.7: put answers for each record, whatever number it answers; the same with unique, where what it refused has not been put.
func TestFilesWherePutRefuses(t *testing.T) {
	for _, wanted := range []api.Errno{api.ErrSpace, api.ErrStop, api.ErrNil, -1, 12345} {
		for _, unique := range []bool{false, true} {
			calls := 0
			n, e := merge.Files(cmp.Compare, unique, func(api.Rec) api.Errno {
				calls++
				return wanted
			}, runsOf(t, []api.Rec{rec(0, "a"), rec(1, "a")}, []api.Rec{rec(2, "a")})...)
			want(t, "Files", n, 0)
			want(t, "Files", e, wanted)
			want(t, "calls of put", calls, 1)
		}
	}
}

// R1, P9.9: one reader twice, readers that nobody opened, a put that reads on: all calls end, and none panics.
func TestFilesOfStrangeReaders(t *testing.T) {
	in := runsOf(t, []api.Rec{rec(0, "a"), rec(1, "b"), rec(2, "c"), rec(3, "d")})
	put, got := keep()
	n, e := merge.Files(cmp.Compare, false, put, in[0], in[0])
	want(t, "Files", n, 4)
	want(t, "Files", e, api.OK)
	same(t, "what was put", *got, []api.Rec{rec(0, "a"), rec(1, "b"), rec(2, "c"), rec(3, "d")})
	merge.Files(cmp.Compare, true, put, &spill.Reader{}, &spill.Reader{})
	in = runsOf(t, []api.Rec{rec(0, "a"), rec(1, "b"), rec(2, "c"), rec(3, "d")}, []api.Rec{rec(4, "a")})
	n, e = merge.Files(cmp.Compare, false, func(api.Rec) api.Errno {
		in[0].Next()
		in[0], in[1] = nil, nil
		in = in[:1:1]
		in[0] = nil
		return api.ErrSpace
	}, in...)
	want(t, "Files", n, 0)
	want(t, "Files", e, api.ErrSpace)
}

// P9.9: of an order that is none all records are put.
func TestFilesWithoutAnOrder(t *testing.T) {
	r := rand.New(rand.NewSource(13))
	for range 30 {
		lists := drawnRuns(r, r.Intn(7), 7)
		for _, order := range []func(a, b string) int{func(a, b string) int { return 1 }, func(a, b string) int { return -1 << 63 }, func(a, b string) int { return r.Intn(3) - 1 }} {
			got := files(t, order, false, lists...)
			all := slices.Concat(lists...)
			byAll := func(a, b api.Rec) int { return cmp.Or(cmp.Compare(a.Seq, b.Seq), cmp.Compare(a.Line, b.Line)) }
			slices.SortFunc(got, byAll)
			slices.SortFunc(all, byAll)
			same(t, "all records", got, all)
		}
	}
}
