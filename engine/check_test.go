package engine_test

import (
	"fmt"
	"math/rand"
	"strings"
	"testing"

	"mill/api"
)

// P12.9, W7: what check says is what the model says; nothing is put out, and no file is made.
func TestCheck(t *testing.T) {
	r := rand.New(rand.NewSource(5))
	for _, order := range orders {
		for _, mode := range []string{"-c", "-C"} {
			for _, shape := range []string{"", "--lines=1 --parallel=3", "--batch-size=2 -S1b"} {
				for many := range 8 {
					w := mixed(r, strings.Join([]string{order, mode, shape}, " "), 3)
					w.words = strings.Join([]string{order, mode, shape, []string{"a", "c", "", "-"}[many%4]}, " ")
					w.checks(t)
					sorted := w.sorted(t, order)
					sorted.checks(t)
				}
			}
		}
	}
}

// checks tells that the check that a world asks for comes out as the model's.
func (w world) checks(t *testing.T) {
	t.Helper()
	m := model(t, w)
	for _, short := range [][]int{nil, {1}, {5, 2}} {
		r := w.run(t, api.FsConfig{Short: short})
		w.comes(t, fmt.Sprintf("%s, %v", w.words, short), r, m)
		want(t, w.words+": files made", r.fs.Stats().Made, 0)
	}
}

// P12.9: where the disorder is told, and what stands beside it.
func TestDisorder(t *testing.T) {
	for _, x := range []struct {
		words, lines string
		at           int
	}{
		{"-c", "b a", 2},
		{"-C", "b a", 2},
		{"-c", "a a b a a", 4},
		{"-cu", "a a b a a", 2},
		{"-cr", "b a a b", 4},
		{"-cr", "a b", 2},
		{"-c -k1.2", "xa yb xa", 3},
		{"-cs -k1.2", "ya xa", 0},
		{"-c -k1.2", "ya xa", 2},
		{"-cu -k1.2", "ya xa", 2},
		{"-cn", "1 2 10", 0},
		{"-c", "1 2 10", 3},
		{"-cf", "a B c", 0},
		{"-cf", "a A", 2},
		{"-cfs", "a A", 0},
		{"-cf", "A a", 0},
		{"-c", "", 0},
		{"-cu", "a", 0},
	} {
		lines := strings.Fields(x.lines)
		for _, to := range []string{" in", " -", ""} {
			w := world{files: files{"in": each(x.lines)}, words: x.words + to, stdin: each(x.lines)}
			r := w.run(t, api.FsConfig{})
			stats, e := api.JobStats{Lines: len(lines), Resident: min(2, len(lines))}, api.OK
			if x.at > 0 {
				file := strings.TrimSpace(to)
				if file == "" {
					file = "-"
				}
				e = api.ErrDisorder
				stats = api.JobStats{Lines: x.at, Resident: 2, At: x.at, Line: lines[x.at-1], File: file}
			}
			want(t, w.words+" of "+x.lines, r.e, e)
			want(t, w.words+" of "+x.lines, r.stats, stats)
		}
	}
}

// P12.9: a disorder is told as soon as its line is read: no further Read is made; and then the file is closed, whatever that answers.
func TestDisorderAtOnce(t *testing.T) {
	w := world{files: files{"a": "b\na\n" + strings.Repeat("c\n", 1000)}, words: "-c a"}
	wantList(t, "calls", w.trace(t), []string{"stat", "open a", "read", "close a"})
	for _, plan := range []api.FsConfig{fault(api.OpClose, 1), {Power: 4}} {
		r := w.run(t, plan)
		want(t, "the Close is refused", r.e, api.ErrDisorder)
		want(t, "stats", r.stats, api.JobStats{Lines: 2, Resident: 2, At: 2, Line: "a", File: "a"})
	}
	// One line a Read: the second brings the disorder.
	r := w.run(t, api.FsConfig{Short: []int{2}})
	want(t, "Reads", r.fs.Stats().By[api.OpRead], 2)
}

// P12.9, P12.10: what else can end a check.
func TestCheckRefused(t *testing.T) {
	w := world{files: files{"a": "a\nb\n"}, words: "-c a", stdin: "a\nb\n"}
	wantList(t, "calls", w.trace(t), []string{"stat", "open a", "read", "read", "close a"})
	for _, op := range []api.Op{api.OpStat, api.OpOpen, api.OpRead, api.OpClose} {
		w.fails(t, fault(op, 1), api.ErrIO, "a")
	}
	w.fails(t, fault(api.OpRead, 2), api.ErrIO, "a")
	w.fails(t, api.FsConfig{Interrupt: 3}, api.ErrStop, "")
	w.words = "-c"
	wantList(t, "calls", w.trace(t), []string{"read", "read"})
	w.fails(t, fault(api.OpRead, 2), api.ErrIO, "-")
	long := world{files: files{"a": "b\n" + strings.Repeat("c", 65537)}, words: "-C a"}
	long.fails(t, api.FsConfig{}, api.ErrLong, "a")
	// The disorder comes first.
	long.files = files{"a": "b\na\n" + strings.Repeat("c", 65537)}
	want(t, "a disorder ahead of a line that is too long", long.run(t, api.FsConfig{}).e, api.ErrDisorder)
}

// W7: the output of sort is in order for check with the same options.
func TestSortedIsInOrder(t *testing.T) {
	r := rand.New(rand.NewSource(6))
	for _, order := range orders {
		w := mixed(r, order+" --lines=3 --batch-size=2", 30)
		in := world{words: order + " -c", stdin: w.ok(t).out}
		want(t, order, in.run(t, api.FsConfig{}).e, api.OK)
	}
}
