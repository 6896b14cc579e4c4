package runs_test

import (
	"math/rand"
	"slices"
	"strconv"
	"strings"
	"testing"
	"unsafe"

	"mill/api"
	"mill/collate"
	"mill/runs"
)

// P8.4: the errors in their order, and the budget's bounds.
func TestNewGen(t *testing.T) {
	o := order(t, "")
	for _, c := range []struct {
		o            *collate.Order
		lines, bytes int
		wanted       api.Errno
	}{
		{nil, 1, 1, api.ErrNil}, {nil, 0, 0, api.ErrNil},
		{o, 0, 1, api.ErrBudget}, {o, 1, 0, api.ErrBudget}, {o, -1, 1, api.ErrBudget}, {o, 1, -1, api.ErrBudget}, {o, 0, 0, api.ErrBudget},
		{o, api.MaxLines + 1, 1, api.ErrBudget}, {o, 1, api.MaxBytes + 1, api.ErrBudget}, {o, api.MaxBytes, 1, api.ErrBudget},
		{o, -1 << 63, 1, api.ErrBudget}, {o, 1, -1 << 63, api.ErrBudget}, {o, 1<<63 - 1, 1, api.ErrBudget}, {o, 1, 1<<63 - 1, api.ErrBudget}, {o, 1<<32 + 1, 1, api.ErrBudget},
	} {
		g, e := runs.NewGen(c.o, c.lines, c.bytes)
		if g != nil || e != c.wanted {
			t.Errorf("NewGen(%v, %d, %d): %v, %d, want %d", c.o != nil, c.lines, c.bytes, g != nil, e, c.wanted)
		}
	}
	for _, b := range [][2]int{{1, 1}, {1, api.MaxBytes}, {api.MaxLines, 1}, {api.MaxLines, api.MaxBytes}} {
		g := gen(t, o, b[0], b[1])
		holds(t, g, 0, 0)
		want(t, "Runs", g.Runs(), 0)
		same(t, "Finish", g.Finish(), nil)
		want(t, "Runs", g.Runs(), 0)
	}
}

// P8.5 to P8.7, R1: a nil generator, and one that NewGen has not made.
func TestNoGen(t *testing.T) {
	var g *runs.Gen
	for _, line := range []string{"", "a", xs(api.MaxLine + 1)} {
		out, e := g.Add(line)
		same(t, "Add", out, nil)
		want(t, "Add", e, api.ErrNil)
	}
	same(t, "Finish", g.Finish(), nil)
	holds(t, g, 0, 0)
	want(t, "Runs", g.Runs(), 0)
	g = &runs.Gen{}
	for range 3 {
		g.Add("a")
		g.Add("bc")
		g.Held()
		g.Runs()
		g.Add(xs(api.MaxLine + 1))
		g.Finish()
	}
}

// P8.5: the longest line goes through; one byte more changes nothing and takes no number.
func TestAddLong(t *testing.T) {
	g := gen(t, order(t, ""), 2, 100000)
	adds(t, g, "", "b", xs(api.MaxLine))
	for range 3 {
		out, e := g.Add(xs(api.MaxLine + 1))
		same(t, "Add", out, nil)
		want(t, "Add", e, api.ErrLong)
		holds(t, g, 2, api.MaxLine+3)
		want(t, "Runs", g.Runs(), 1)
	}
	adds(t, g, "0:b(0)", "a")
	want(t, "Runs", g.Runs(), 2)
	want(t, "Finish", tagged(g.Finish()), "0:"+xs(api.MaxLine)+"(1) 1:a(2)")
}

// P8.5: at the budget's bytes a line fits, and one byte more does not; a dear line drives out several; one that costs more than the budget is held alone.
func TestAddAtTheBytes(t *testing.T) {
	g := gen(t, order(t, ""), 100, 10)
	adds(t, g, "", "a", "b", "c", "def")
	holds(t, g, 4, 10)
	adds(t, g, "0:a(0)", "")
	holds(t, g, 4, 9)
	adds(t, g, "", "")
	holds(t, g, 5, 10)
	adds(t, g, "0:b(1) 0:c(2) 0:def(3)", "zzzzzzz")
	holds(t, g, 3, 10)
	adds(t, g, "0:zzzzzzz(6) 1:(4) 1:(5)", strings.Repeat("y", 99))
	holds(t, g, 1, 100)
	adds(t, g, "1:"+strings.Repeat("y", 99)+"(7)", "")
	holds(t, g, 1, 1)
}

// P8.5: what may follow the record that went out last joins its run, also if the records ahead of it in memory are greater, and also if none of that run is held any more.
func TestAddJoinsTheRun(t *testing.T) {
	g := gen(t, order(t, ""), 2, 1000)
	adds(t, g, "0:a(0)", "a", "m", "b")
	adds(t, g, "0:b(2)", "c")
	adds(t, g, "0:c(3)", "d")
	adds(t, g, "0:d(4)", "a")
	adds(t, g, "0:m(1)", "z")
	adds(t, g, "0:z(6)", "y")
	adds(t, g, "1:a(5)", "x")
	adds(t, g, "1:x(8)", "w")
	want(t, "Runs", g.Runs(), 3)
	want(t, "Finish", tagged(g.Finish()), "1:y(7) 2:w(9)")
}

// P8.6: a Finish by which nothing goes out changes nothing; one by which something does ends the run.
func TestFinish(t *testing.T) {
	g := gen(t, order(t, ""), 2, 1000)
	for range 3 {
		same(t, "Finish", g.Finish(), nil)
	}
	adds(t, g, "", "b")
	want(t, "Runs", g.Runs(), 1)
	want(t, "Finish", tagged(g.Finish()), "0:b(0)")
	for range 3 {
		same(t, "Finish", g.Finish(), nil)
		want(t, "Runs", g.Runs(), 1)
	}
	adds(t, g, "", "c", "d")
	want(t, "Runs", g.Runs(), 2)
	adds(t, g, "1:c(1)", "a")
	want(t, "Runs", g.Runs(), 3)
	want(t, "Finish", tagged(g.Finish()), "1:d(2) 2:a(3)")
	adds(t, g, "", "z", "y")
	want(t, "Finish", tagged(g.Finish()), "3:y(5) 3:z(4)")
	want(t, "Runs", g.Runs(), 4)
}

// goThrough adds lines and gives all that goes out.
func goThrough(t *testing.T, g *runs.Gen, lines []string) (out []api.Tagged) {
	t.Helper()
	for _, line := range lines {
		l, e := g.Add(line)
		want(t, "Add", e, api.OK)
		out = append(out, l...)
	}
	return append(out, g.Finish()...)
}

// P8.8: what comes out of many lines, by many orders.
func TestGenManyLines(t *testing.T) {
	lines := anyLines(10, 4000)
	for _, words := range someOrders {
		o := order(t, words)
		for _, b := range [][2]int{{1, 1000}, {7, 1000}, {1000, 40}, {300, 2000}, {100000, 1 << 20}} {
			g := gen(t, o, b[0], b[1])
			out := goThrough(t, g, lines)
			want(t, "records", len(out), len(lines))
			seen := make([]bool, len(lines))
			for i, x := range out {
				if seen[x.Rec.Seq] || lines[x.Rec.Seq] != x.Rec.Line {
					t.Fatalf("%s: %v was not added, or has come already", words, x)
				}
				seen[x.Rec.Seq] = true
				if i == 0 {
					want(t, "first run", x.Run, 0)
				} else if y := out[i-1]; x.Run != y.Run && x.Run != y.Run+1 || x.Run == y.Run && !comesFirst(o, y.Rec, x.Rec) {
					t.Fatalf("%s: %v behind %v", words, x, y)
				}
			}
			want(t, "Runs", g.Runs(), out[len(out)-1].Run+1)
			equalOnesRise(t, o, out)
		}
	}
}

// equalOnesRise tells that of two records that no order tells apart the one with the lower number has gone out first.
func equalOnesRise(t *testing.T, o *collate.Order, out []api.Tagged) {
	t.Helper()
	type placed struct {
		rec   api.Rec
		place int
	}
	var l []placed
	for i, x := range out {
		l = append(l, placed{x.Rec, i})
	}
	slices.SortFunc(l, func(a, b placed) int {
		if comesFirst(o, a.rec, b.rec) {
			return -1
		}
		return 1
	})
	for i := range l[1:] {
		a, b := l[i], l[i+1]
		if o.Compare(a.rec.Line, b.rec.Line) == 0 && a.place > b.place {
			t.Fatalf("%v has gone out ahead of %v", b.rec, a.rec)
		}
	}
}

// sizes tells how many records each run has.
func sizes(out []api.Tagged) (l []int) {
	for _, x := range out {
		for len(l) <= x.Run {
			l = append(l, 0)
		}
		l[x.Run]++
	}
	return l
}

// P8.9: how many runs there are, and how long they are, of lines as they come.
func TestHowManyRuns(t *testing.T) {
	for _, words := range []string{"", "-r", "-fs", "-k9 -s"} {
		o := order(t, words)
		for _, lines := range []int{1, 2, 3, 10, 64, 99, 1000} {
			for _, n := range []int{0, 1, 2, 9, 63, 64, 65, 999, 3000} {
				out := goThrough(t, gen(t, o, lines, api.MaxBytes), anyLines(int64(n), n))
				l := sizes(out)
				if most := (n + lines - 1) / lines; len(l) > most {
					t.Errorf("%s: %d lines with a budget of %d: %d runs", words, n, lines, len(l))
				}
				for _, size := range l[:max(0, len(l)-1)] {
					if size < lines {
						t.Errorf("%s: %d lines with a budget of %d: a run of %d", words, n, lines, size)
					}
				}
			}
		}
	}
}

// P8.9: lines in order make one run; lines that fall make as many as they may.
func TestRunsOfSortedLines(t *testing.T) {
	r := rand.New(rand.NewSource(11))
	o := order(t, "")
	for _, lines := range []int{1, 2, 3, 10, 64} {
		for _, n := range []int{1, 2, 9, 10, 11, 128, 1000} {
			rising, falling := make([]string, n), make([]string, n)
			x := 1000000
			for i := range n {
				rising[i] = strconv.Itoa(x)
				falling[n-1-i] = strconv.Itoa(x)
				x++
			}
			want(t, "rising", len(sizes(goThrough(t, gen(t, o, lines, api.MaxBytes), rising))), 1)
			want(t, "falling", len(sizes(goThrough(t, gen(t, o, lines, api.MaxBytes), falling))), (n+lines-1)/lines)
			for i := range rising {
				rising[i] = rising[i-r.Intn(1+i)%2]
			}
			slices.Sort(rising)
			want(t, "rising, some alike", len(sizes(goThrough(t, gen(t, o, lines, api.MaxBytes), rising))), 1)
		}
	}
	// Of lines as they come runs are about twice as long as what is held: so replacement selection is worth its while.
	if l := sizes(goThrough(t, gen(t, o, 500, api.MaxBytes), numbered(12, 50000, 9))); len(l) > 60 {
		t.Errorf("%d runs of 50000 lines with a budget of 500", len(l))
	}
}

// P8.5: a full budget of a million lines, and one line more.
func TestGenFullBudget(t *testing.T) {
	g := gen(t, order(t, ""), api.MaxLines, api.MaxBytes)
	lines := numbered(13, 2000, 4)
	for i := range api.MaxLines {
		if out, e := g.Add(lines[i%2000]); len(out) != 0 || e != api.OK {
			t.Fatalf("Add number %d: %d records, %d", i, len(out), e)
		}
	}
	holds(t, g, api.MaxLines, 5*api.MaxLines)
	least := slices.Index(lines, slices.Min(lines))
	adds(t, g, "0:"+lines[least]+"("+strconv.Itoa(least)+")", "5")
	holds(t, g, api.MaxLines, 5*api.MaxLines-3)
	want(t, "Runs", g.Runs(), 1)
}

// P8.13, R4: what goes out shares nothing with what was handed in nor with one another, spare room included.
func TestGenSharesNothing(t *testing.T) {
	g := gen(t, order(t, "-s"), 3, 1000)
	var all []memory
	for range 2 {
		for _, line := range []string{"dd", "aa", "cc", "bb", "aa", "zz", "zz", "longer than the others", "bb", "yy"} {
			line = strings.Clone(line)
			out, e := g.Add(line)
			want(t, "Add", e, api.OK)
			all = append(append(all, ofText(line)), ofTagged(out)...)
		}
		all = append(all, ofTagged(g.Finish())...)
	}
	apart(t, "Gen", all)
}

// P8.13, R4: a generator keeps copies: neither the text of a line that was handed in nor that of one that went out is looked at again.
func TestGenKeepsCopies(t *testing.T) {
	g := gen(t, order(t, ""), 100, 10)
	for _, line := range []string{"bbbb", "dddd"} {
		text := []byte(line)
		adds(t, g, "", unsafe.String(&text[0], len(text)))
		copy(text, "????")
	}
	out, e := g.Add("c")
	want(t, "Add", e, api.OK)
	want(t, "Add", tagged(out), "0:bbbb(0)")
	copy(unsafe.Slice(unsafe.StringData(out[0].Rec.Line), 4), "zzzz")
	adds(t, g, "", "cc")
	want(t, "Runs", g.Runs(), 1)
	want(t, "Finish", tagged(g.Finish()), "0:c(2) 0:cc(3) 0:dddd(1)")
}
