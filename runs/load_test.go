package runs_test

import (
	"strconv"
	"strings"
	"testing"
	"unsafe"

	"mill/api"
	"mill/collate"
	"mill/runs"
)

// shut gives a channel that is closed.
func shut() <-chan struct{} {
	done := make(chan struct{})
	close(done)
	return done
}

// P8.10: the errors in their order, the budget's bounds and those of the goroutines.
func TestNewLoad(t *testing.T) {
	o := order(t, "")
	for _, c := range []struct {
		o                      *collate.Order
		lines, bytes, parallel int
		wanted                 api.Errno
	}{
		{nil, 1, 1, 1, api.ErrNil}, {nil, 0, 0, 0, api.ErrNil}, {nil, 1, 1, 17, api.ErrNil},
		{o, 0, 1, 1, api.ErrBudget}, {o, 1, 0, 1, api.ErrBudget}, {o, -1, 1, 1, api.ErrBudget}, {o, 1, -1, 1, api.ErrBudget}, {o, 0, 0, 0, api.ErrBudget}, {o, 0, 1, 17, api.ErrBudget},
		{o, api.MaxLines + 1, 1, 1, api.ErrBudget}, {o, 1, api.MaxBytes + 1, 1, api.ErrBudget}, {o, 1 << 40, 1 << 40, 0, api.ErrBudget},
		{o, 1, 1, 0, api.ErrArg}, {o, 1, 1, -1, api.ErrArg}, {o, 1, 1, api.MaxParallel + 1, api.ErrArg}, {o, 1, 1, 1<<63 - 1, api.ErrArg}, {o, 1, 1, -1 << 63, api.ErrArg},
	} {
		for _, done := range []<-chan struct{}{nil, shut()} {
			l, e := runs.NewLoad(c.o, c.lines, c.bytes, c.parallel, done)
			if l != nil || e != c.wanted {
				t.Errorf("NewLoad(%v, %d, %d, %d): %v, %d, want %d", c.o != nil, c.lines, c.bytes, c.parallel, l != nil, e, c.wanted)
			}
		}
	}
	for parallel := 1; parallel <= api.MaxParallel; parallel++ {
		for _, b := range [][2]int{{1, 1}, {1, api.MaxBytes}, {api.MaxLines, 1}, {api.MaxLines, api.MaxBytes}} {
			l := load(t, o, b[0], b[1], parallel, shut())
			holds(t, l, 0, 0)
		}
	}
}

// P8.10, P8.11, R1: a nil load, and one that NewLoad has not made.
func TestNoLoad(t *testing.T) {
	var l *runs.Load
	for _, line := range []string{"", "a", xs(api.MaxLine + 1)} {
		out, e := l.Add(line)
		same(t, "Add", out, nil)
		want(t, "Add", e, api.ErrNil)
	}
	out, e := l.Finish()
	same(t, "Finish", out, nil)
	want(t, "Finish", e, api.ErrNil)
	want(t, "Skip", l.Skip(0, 0), api.ErrNil)
	want(t, "Skip", l.Skip(-1, 0), api.ErrNil)
	holds(t, l, 0, 0)
	l = &runs.Load{}
	for range 3 {
		l.Skip(1, 2)
		l.Add("a")
		l.Add("bc")
		l.Held()
		l.Add(xs(api.MaxLine + 1))
		l.Finish()
	}
}

// P8.10: what Skip takes, and that it changes nothing where it refuses; it may be called again as long as no line has been added.
func TestSkip(t *testing.T) {
	const most = 1 << 40
	l := load(t, order(t, ""), 1, 1000, 1, nil)
	want(t, "Skip", l.Skip(5, 6), api.OK)
	for _, c := range [][2]int{{-1, 0}, {0, -1}, {-1, -1}, {most + 1, 0}, {0, most + 1}, {-1 << 63, 0}, {0, -1 << 63}, {1<<63 - 1, 0}, {0, 1<<63 - 1}} {
		want(t, "Skip", l.Skip(c[0], c[1]), api.ErrArg)
	}
	adds(t, l, "6:a(5)", "a", "b")
	for _, c := range [][2]int{{0, 0}, {5, 6}, {7, 7}, {-1, 0}} {
		want(t, "Skip", l.Skip(c[0], c[1]), api.ErrArg)
	}
	adds(t, l, "7:b(6)", "c")
	for _, c := range [][2]int{{0, 0}, {0, most}, {most, 0}, {most, most}} {
		l := load(t, order(t, ""), 1, 1000, 1, nil)
		want(t, "Skip", l.Skip(3, 3), api.OK)
		want(t, "Skip", l.Skip(c[0], c[1]), api.OK)
		adds(t, l, strconv.Itoa(c[1])+":a("+strconv.Itoa(c[0])+")", "a", "b")
		adds(t, l, strconv.Itoa(c[1]+1)+":b("+strconv.Itoa(c[0]+1)+")", "c")
	}
}

// P8.10: a line that was refused has not been added, and a Finish of nothing adds none; but one that has gone out has been added.
func TestSkipBehindOtherCalls(t *testing.T) {
	l := load(t, order(t, ""), 9, 1000, 2, nil)
	l.Add(xs(api.MaxLine + 1))
	l.Finish()
	want(t, "Skip", l.Skip(8, 1), api.OK)
	adds(t, l, "", "a")
	want(t, "Skip", l.Skip(0, 0), api.ErrArg)
	out, e := l.Finish()
	want(t, "Finish", tagged(out), "1:a(8)")
	want(t, "Finish", e, api.OK)
	want(t, "Skip", l.Skip(0, 0), api.ErrArg)
	adds(t, l, "", "b")
	out, _ = l.Finish()
	want(t, "Finish", tagged(out), "2:b(9)")
}

// P8.11: the longest line goes through; one byte more changes nothing and takes no number, also where the line would not fit.
func TestLoadAddLong(t *testing.T) {
	l := load(t, order(t, ""), 2, 100000, 4, nil)
	adds(t, l, "", xs(api.MaxLine), "b")
	for range 3 {
		out, e := l.Add(xs(api.MaxLine + 1))
		same(t, "Add", out, nil)
		want(t, "Add", e, api.ErrLong)
		holds(t, l, 2, api.MaxLine+3)
	}
	adds(t, l, "0:b(1) 0:"+xs(api.MaxLine)+"(0)", "a")
	out, _ := l.Finish()
	want(t, "Finish", tagged(out), "1:a(2)")
}

// P8.11: at the budget's bytes a line fits, and one byte more does not; one that costs more than the budget is held alone.
func TestLoadAtTheBytes(t *testing.T) {
	l := load(t, order(t, ""), 100, 10, 3, nil)
	adds(t, l, "", "c", "b", "def", "a")
	holds(t, l, 4, 10)
	adds(t, l, "0:a(3) 0:b(1) 0:c(0) 0:def(2)", "")
	holds(t, l, 1, 1)
	adds(t, l, "1:(4)", "0123456789")
	holds(t, l, 1, 11)
	adds(t, l, "2:0123456789(5)", "")
	holds(t, l, 1, 1)
}

// P8.11: with done closed nothing is sorted and all stays as it was; what needs no sorting goes on.
func TestLoadStopped(t *testing.T) {
	for _, parallel := range []int{1, 2, api.MaxParallel} {
		done := make(chan struct{})
		l := load(t, order(t, ""), 2, 1000, parallel, done)
		adds(t, l, "0:a(1) 0:b(0)", "b", "a", "d")
		close(done)
		adds(t, l, "", "ccc")
		for range 3 {
			out, e := l.Add("e")
			same(t, "Add", out, nil)
			want(t, "Add", e, api.ErrStop)
			holds(t, l, 2, 6)
			out, e = l.Finish()
			same(t, "Finish", out, nil)
			want(t, "Finish", e, api.ErrStop)
			holds(t, l, 2, 6)
			_, e = l.Add(xs(api.MaxLine + 1))
			want(t, "Add", e, api.ErrLong)
		}
		l = load(t, order(t, ""), 1, 1000, parallel, done)
		out, e := l.Finish()
		same(t, "Finish", out, nil)
		want(t, "Finish", e, api.OK)
		want(t, "Skip", l.Skip(4, 4), api.OK)
		adds(t, l, "", "a")
		_, e = l.Finish()
		want(t, "Finish", e, api.ErrStop)
	}
}

// P8.11: done may be closed, but also never be; what is sorted does not depend on the number of goroutines.
func TestLoadInParallel(t *testing.T) {
	lines := anyLines(14, 3000)
	for _, words := range someOrders {
		o := order(t, words)
		var wanted []api.Tagged
		for _, parallel := range []int{1, 2, 3, 7, api.MaxParallel} {
			l := load(t, o, 700, 1<<20, parallel, make(chan struct{}))
			var all []api.Tagged
			for _, line := range lines {
				out, e := l.Add(line)
				want(t, "Add", e, api.OK)
				all = append(all, out...)
			}
			out, e := l.Finish()
			want(t, "Finish", e, api.OK)
			all = append(all, out...)
			if parallel == 1 {
				wanted = all
				want(t, "runs", len(sizes(all)), 5)
			}
			same(t, words, all, wanted)
		}
	}
}

// P8.13, R4: what goes out shares nothing with what was handed in, nor with one another, spare room included.
func TestLoadSharesNothing(t *testing.T) {
	for _, parallel := range []int{1, 2, 5} {
		l := load(t, order(t, ""), 3, 1000, parallel, nil)
		var all []memory
		for range 2 {
			for _, line := range []string{"dd", "aa", "cc", "bb", "aa", "zz", "zz", "longer than the others", "bb", "yy"} {
				line = strings.Clone(line)
				out, e := l.Add(line)
				want(t, "Add", e, api.OK)
				all = append(append(all, ofText(line)), ofTagged(out)...)
			}
			out, e := l.Finish()
			want(t, "Finish", e, api.OK)
			all = append(all, ofTagged(out)...)
		}
		apart(t, "Load", all)
	}
}

// P8.13, R4: a load keeps copies of the lines that are handed in.
func TestLoadKeepsCopies(t *testing.T) {
	l := load(t, order(t, ""), 2, 1000, 2, nil)
	for _, line := range []string{"bbbb", "aaaa"} {
		text := []byte(line)
		adds(t, l, "", unsafe.String(&text[0], len(text)))
		copy(text, "????")
	}
	out, _ := l.Finish()
	want(t, "Finish", tagged(out), "0:aaaa(1) 0:bbbb(0)")
}
