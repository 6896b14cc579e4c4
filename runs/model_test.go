package runs_test

import (
	"math/rand"
	"slices"
	"strconv"
	"strings"
	"testing"

	"mill/api"
	"mill/collate"
)

// modelGen says P8.5 to P8.7 once more, by other means: what is held is a plain list that is gone through each time, and all that went out is kept.
type modelGen struct {
	o            *collate.Order
	lines, bytes int
	held         []api.Tagged
	out          []api.Tagged // ever
	since        int          // how many of these had gone out when Finish was called last
	next         uint64
	joined       map[int]int // how many joined each run
}

func (m *modelGen) full(line string) bool {
	all := len(line) + 1
	for _, x := range m.held {
		all += len(x.Rec.Line) + 1
	}
	return len(m.held) > 0 && (len(m.held) >= m.lines || all > m.bytes)
}

// leave lets out, of the records in the lowest run, the first one.
func (m *modelGen) leave() {
	first := 0
	for i, x := range m.held {
		y := m.held[first]
		if x.Run < y.Run || x.Run == y.Run && comesFirst(m.o, x.Rec, y.Rec) {
			first = i
		}
	}
	m.out = append(m.out, m.held[first])
	m.held = slices.Delete(m.held, first, first+1)
}

func (m *modelGen) run(line string) int {
	if len(m.out) == 0 {
		return 0
	}
	last := m.out[len(m.out)-1]
	if len(m.out) == m.since || m.o.Compare(last.Rec.Line, line) > 0 {
		return last.Run + 1
	}
	return last.Run
}

func (m *modelGen) add(line string) []api.Tagged {
	from := len(m.out)
	for m.full(line) {
		m.leave()
	}
	run := m.run(line)
	m.held = append(m.held, api.Tagged{Run: run, Rec: api.Rec{Seq: m.next, Line: line}})
	m.joined[run]++
	m.next++
	return m.out[from:]
}

func (m *modelGen) finish() []api.Tagged {
	from := len(m.out)
	for len(m.held) > 0 {
		m.leave()
	}
	m.since = len(m.out)
	return m.out[from:]
}

func (m *modelGen) cost() (all int) {
	for _, x := range m.held {
		all += len(x.Rec.Line) + 1
	}
	return all
}

// end is a step of a walk that is no line: Finish is called.
const end = "\x00end"

// walks holds a generator against the model, step by step, and behind the last step by one more Finish, or two.
func walks(t *testing.T, o *collate.Order, lines, bytes int, steps []string) {
	t.Helper()
	g := gen(t, o, lines, bytes)
	m := &modelGen{o: o, lines: lines, bytes: bytes, joined: map[int]int{}}
	for i, step := range append(slices.Clone(steps), end, end) {
		what := "step " + strconv.Itoa(i) + " " + strconv.Quote(step[:min(len(step), 20)])
		switch {
		case step == end:
			same(t, what, g.Finish(), m.finish())
		default:
			out, e := g.Add(step)
			if len(step) > api.MaxLine {
				want(t, what, e, api.ErrLong)
				same(t, what, out, nil)
			} else {
				want(t, what, e, api.OK)
				same(t, what, out, m.add(step))
			}
		}
		holds(t, g, len(m.held), m.cost())
		want(t, what+": Runs", g.Runs(), len(m.joined))
		if t.Failed() {
			t.Fatalf("budget %d, %d, steps %.200q", lines, bytes, steps)
		}
	}
}

// P8.5 to P8.7: all short walks over lines, some of them dear, and over Finish, with budgets of which the lines, the bytes or both bind.
func TestGenShortWalks(t *testing.T) {
	step := map[rune]string{'a': "a", 'b': "b", 'l': "aaa", '-': end}
	for _, words := range []string{"", "-rs"} {
		o := order(t, words)
		for _, s := range texts("abl-", 6) {
			var steps []string
			for _, c := range s {
				steps = append(steps, step[c])
			}
			walks(t, o, 1, 1, steps)
			walks(t, o, 2, 1000, steps)
			walks(t, o, 3, 1000, steps)
			walks(t, o, 1000, 4, steps)
			walks(t, o, 3, 6, steps)
		}
	}
}

// P8.5 to P8.7: lines of any bytes by many orders, with lines that are too long among them.
func TestGenLongWalks(t *testing.T) {
	r := rand.New(rand.NewSource(6))
	lines := append(anyLines(7, 400), strings.Repeat("b", api.MaxLine), xs(api.MaxLine+1), xs(api.MaxLine+2))
	for i := range 40 {
		for _, words := range someOrders {
			var steps []string
			for range r.Intn(150) {
				switch n := r.Intn(40); {
				case n == 0:
					steps = append(steps, end)
				case n == 1:
					steps = append(steps, lines[len(lines)-1-r.Intn(3)])
				default:
					steps = append(steps, lines[r.Intn(1+r.Intn(400))])
				}
			}
			walks(t, order(t, words), 1+r.Intn(1+i), 1+r.Intn(1+10*i), steps)
		}
	}
}

// modelLoad says P8.11 once more: what is held is counted anew each time.
type modelLoad struct {
	o            *collate.Order
	lines, bytes int
	held         []api.Rec
	next         uint64
	run          int
}

func (m *modelLoad) cost() (all int) {
	for _, r := range m.held {
		all += len(r.Line) + 1
	}
	return all
}

func (m *modelLoad) finish() (out []api.Tagged) {
	for _, r := range sortedSlowly(m.o, m.held) {
		out = append(out, api.Tagged{Run: m.run, Rec: r})
	}
	if len(m.held) > 0 {
		m.run++
	}
	m.held = nil
	return out
}

func (m *modelLoad) add(line string) (out []api.Tagged) {
	if len(m.held) > 0 && (len(m.held) == m.lines || m.cost()+len(line)+1 > m.bytes) {
		out = m.finish()
	}
	m.held = append(m.held, api.Rec{Seq: m.next, Line: line})
	m.next++
	return out
}

// loads holds a load against the model, as walks does.
func loads(t *testing.T, o *collate.Order, lines, bytes, parallel int, skip []int, steps []string) {
	t.Helper()
	l := load(t, o, lines, bytes, parallel, make(chan struct{}))
	m := &modelLoad{o: o, lines: lines, bytes: bytes}
	if len(skip) > 0 {
		want(t, "Skip", l.Skip(skip[0], skip[1]), api.OK)
		m.next, m.run = uint64(skip[0]), skip[1]
	}
	for i, step := range append(slices.Clone(steps), end, end) {
		what := "step " + strconv.Itoa(i) + " " + strconv.Quote(step[:min(len(step), 20)])
		switch {
		case step == end:
			out, e := l.Finish()
			want(t, what, e, api.OK)
			same(t, what, out, m.finish())
		case len(step) > api.MaxLine:
			out, e := l.Add(step)
			want(t, what, e, api.ErrLong)
			same(t, what, out, nil)
		default:
			out, e := l.Add(step)
			want(t, what, e, api.OK)
			same(t, what, out, m.add(step))
		}
		holds(t, l, len(m.held), m.cost())
		if t.Failed() {
			t.Fatalf("budget %d, %d, parallel %d, steps %.200q", lines, bytes, parallel, steps)
		}
	}
}

// P8.11: all short walks.
func TestLoadShortWalks(t *testing.T) {
	step := map[rune]string{'a': "a", 'b': "b", 'l': "aaa", '-': end}
	o := order(t, "-r")
	for _, s := range texts("abl-", 5) {
		var steps []string
		for _, c := range s {
			steps = append(steps, step[c])
		}
		loads(t, o, 1, 1, 1, nil, steps)
		loads(t, o, 2, 1000, 3, []int{1 << 40, 1 << 40}, steps)
		loads(t, o, 1000, 4, 2, nil, steps)
		loads(t, o, 3, 6, 16, []int{0, 7}, steps)
	}
}

// P8.11: lines of any bytes by many orders, with lines that are too long among them.
func TestLoadLongWalks(t *testing.T) {
	r := rand.New(rand.NewSource(8))
	lines := append(anyLines(9, 400), strings.Repeat("b", api.MaxLine), xs(api.MaxLine+1), xs(api.MaxLine+2))
	for i := range 20 {
		for _, words := range someOrders {
			var steps []string
			for range r.Intn(150) {
				switch n := r.Intn(40); {
				case n == 0:
					steps = append(steps, end)
				case n == 1:
					steps = append(steps, lines[len(lines)-1-r.Intn(3)])
				default:
					steps = append(steps, lines[r.Intn(1+r.Intn(400))])
				}
			}
			loads(t, order(t, words), 1+r.Intn(1+2*i), 1+r.Intn(1+20*i), 1+r.Intn(api.MaxParallel), []int{r.Intn(5), r.Intn(5)}, steps)
		}
	}
}
