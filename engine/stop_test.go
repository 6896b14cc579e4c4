package engine_test

import (
	"fmt"
	"runtime"
	"runtime/metrics"
	"strings"
	"sync"
	"testing"
	"time"

	"mill/api"
)

// W4, P12.11: the interrupt at each call: ErrStop, with all as it was, or all done. With -o it is looked for ahead of the renaming: so it is ErrStop up to there, and never behind it.
func TestInterrupt(t *testing.T) {
	for _, w := range jobs() {
		trace, m := w.trace(t), model(t, w)
		for n := 1; n <= len(trace)+1; n++ {
			what := fmt.Sprintf("%s, interrupted at call %d", w.words, n)
			r := w.run(t, api.FsConfig{Interrupt: n})
			stops := r.e == api.ErrStop
			if w.outputName(t) != "" {
				stops = n < w.stands(t, trace)
			}
			if !stops {
				w.comes(t, what, r, m)
				continue
			}
			w.endsClean(t, what, r, api.ErrStop)
			want(t, what+": the input", r.stats.File, "")
			if !strings.HasPrefix(m.out, r.out) {
				t.Errorf("%s: put out %q of %q", what, r.out, m.out)
			}
		}
	}
}

// stops tells of each call whether the interrupt at it ends the job (S) or comes too late (-).
func (w world) stops(t *testing.T) string {
	t.Helper()
	s := ""
	for n := range w.trace(t) {
		if w.run(t, api.FsConfig{Interrupt: n + 1}).e == api.ErrStop {
			s += "S"
		} else {
			s += "-"
		}
	}
	return s
}

// P12.11: where it is looked for: ahead of each line or record that is read, written to a spill file, or put out, and ahead of the renaming; nowhere else.
func TestWhereItLooks(t *testing.T) {
	f := files{"a": each("b a"), "b": each("a"), "e": "", "s": each("a a a")}
	for _, x := range []struct{ words, stops, calls string }{
		// Ahead of each line that is put out.
		{"a", "SSSSS-", "stat, open a, read, read, close a, write out"},
		{"-", "SS-", "read, read, write out"},
		// No line comes behind the last Read; of a second - nothing is read.
		{"e", "SS--", "stat, open e, read, close e"},
		{"e e", "SSSSSS--", "stat, stat, open e, read, close e, open e, read, close e"},
		{"e - -", "SSSS-", "stat, open e, read, close e, read"},
		{"-c b", "SSS--", "stat, open b, read, read, close b"},
		{"-m e b", "SSSSSS----", "stat, stat, open e, open b, read, read, read, close e, close b, write out"},
		// Ahead of the renaming, and not behind it.
		{"-o out e", "SSSSSSSS-", "stat, open e, read, close e, stat, open new mill.00001, sync, close mill.00001, rename mill.00001 to out"},
	} {
		w := world{files: f, words: x.words, stdin: each("b a")}
		if strings.HasPrefix(x.words, "e -") {
			w.stdin = ""
		}
		wantList(t, x.words, w.trace(t), strings.Split(x.calls, ", "))
		want(t, x.words, w.stops(t), x.stops)
	}
	// Ahead of each record that is read: of three alike ones the first is put out; then the ends of three runs are read, one by one.
	w := world{files: f, words: "-u --lines=1 --parallel=2 s"}
	l, s := w.trace(t), w.stops(t)
	wantList(t, w.words, l[len(l)-10:], []string{"read", "read", "read", "close mill.00001", "close mill.00002", "close mill.00003", "write out", "remove mill.00001", "remove mill.00002", "remove mill.00003"})
	want(t, w.words, s, strings.Repeat("S", len(l)-8)+strings.Repeat("-", 8))
}

// P12.11: ahead of each record that is written to a spill file: here each record makes a Write of its own, and behind the interrupt there is none.
func TestLooksAheadOfEachWrite(t *testing.T) {
	line := func(c string) string { return strings.Repeat(c, 509) + "\n" }
	for _, w := range []world{
		{files: files{"a": line("d") + line("c") + line("b") + line("a") + line("e")}, words: "--lines=4 --parallel=2 a"},
		{files: files{"a": line("a") + line("b"), "b": line("c") + line("d"), "c": line("e")}, words: "-m --batch-size=2 a b c"},
	} {
		// The head, then a record a Write.
		for n := 1; n <= 3; n++ {
			calls := w.callOf(t, "write mill.00001", n)
			r := w.run(t, api.FsConfig{Interrupt: calls})
			w.endsClean(t, w.words, r, api.ErrStop)
			want(t, fmt.Sprintf("%s, interrupted at Write %d: Writes", w.words, n), r.fs.Stats().By[api.OpWrite], n)
		}
	}
}

// P12.11: ahead of each line that is put out: here each makes a Write.
func TestLooksAheadOfEachPut(t *testing.T) {
	line := func(c string) string { return strings.Repeat(c, 511) + "\n" }
	w := world{files: files{"a": line("c") + line("b") + line("a")}}
	for _, words := range []string{"a", "--lines=1 a", "-m a", "-o out a", "-o out --checkpoint ck a"} {
		w.words = words
		to := "write out"
		if w.outputName(t) != "" {
			to = "write mill.00001"
		}
		if strings.Contains(words, "ck") {
			to = "write mill.00002"
		}
		before := 0
		for n := 1; n <= 3; n++ {
			call := w.callOf(t, to, n)
			r := w.run(t, api.FsConfig{Interrupt: call})
			if n == 3 && words == "a" {
				// No line comes behind it, and of memory none is read.
				want(t, words, r.e, api.OK)
				continue
			}
			w.endsClean(t, words, r, api.ErrStop)
			writes := r.fs.Stats().By[api.OpWrite]
			want(t, fmt.Sprintf("%s, interrupted at Write %d: one Write more", words, n), n == 1 || writes == before+1, true)
			before = writes
		}
	}
}

// callOf tells the number of the call that stands in the world's trace for the n-th time.
func (w world) callOf(t *testing.T, call string, n int) int {
	t.Helper()
	for i, x := range w.trace(t) {
		if x == call {
			n--
		}
		if n == 0 {
			return i + 1
		}
	}
	t.Fatalf("%s: too few calls %q", w.words, call)
	return 0
}

// P12.11: a job that begins when the interrupt has come already ends as soon as it would read a line.
func TestStoppedAlready(t *testing.T) {
	for _, w := range jobs() {
		s := w.system(t, api.FsConfig{})
		s.Interrupt()
		w.endsClean(t, w.words, w.on(t, s), api.ErrStop)
	}
}

// P12.18, W4: the interrupt from elsewhere, at any time: the job is done or not; all goroutines have ended.
func TestInterruptFromElsewhere(t *testing.T) {
	w := world{files: files{"a": strings.Repeat("some line\nanother one\n", 2000)}}
	for i, words := range []string{"a", "--lines=500 --parallel=4 a", "--lines=100 --batch-size=3 -o out a", "--lines=700 --parallel=16 --checkpoint ck -o out a", "--parallel=8 a"} {
		w.words = words
		m := model(t, w)
		for wait := range 12 {
			before := runtime.NumGoroutine()
			s := w.system(t, api.FsConfig{})
			var all sync.WaitGroup
			all.Go(func() {
				// As many looks as it takes to come somewhere in between.
				for range wait * wait * 400 * (i + 1) {
					s.Names()
				}
				s.Interrupt()
			})
			r := w.on(t, s)
			all.Wait()
			if r.e == api.OK {
				w.comes(t, words, r, m)
			} else {
				w.endsClean(t, words, r, api.ErrStop)
			}
			allEnded(t, words, before)
		}
	}
}

// P12.6: a load is given up as soon as it is to be sorted when the interrupt has come: nothing is made of it, and only what is there is removed.
func TestLoadGivenUp(t *testing.T) {
	for words, behind := range map[string]int{
		"--parallel=2 --lines=3 -o out a": 0,
		// The first run.
		"--parallel=2 --lines=2 a": 1,
		// And the journal, which is closed first.
		"--lines=2 --checkpoint ck -o out a": 3,
	} {
		w := world{files: files{"a": each("c b a")}, words: words}
		call := w.callOf(t, "close a", 1)
		r := w.run(t, api.FsConfig{Interrupt: call})
		w.endsClean(t, words, r, api.ErrStop)
		want(t, words+": calls behind it", r.fs.Stats().Calls-call, behind)
	}
}

// P12.6: loads are sorted by as many goroutines as there are workers; replacement selection needs none.
func TestWorkers(t *testing.T) {
	made := func() int {
		sample := []metrics.Sample{{Name: "/sched/goroutines-created:goroutines"}}
		metrics.Read(sample)
		return int(sample[0].Value.Uint64())
	}
	const loads = 50
	for words, workers := range map[string]int{"a": 0, "--parallel=1 a": 0, "--parallel=2 a": 2, "--parallel=16 a": 16, "--checkpoint ck -o out a": 1, "--checkpoint ck -o out --parallel=5 a": 5} {
		w := world{files: files{"a": strings.Repeat("b\na\n", loads)}, words: "--lines=2 --batch-size=64 " + words}
		before := made()
		w.ok(t)
		// The language's own work makes a few besides.
		if n := made() - before; n < loads*workers || n >= loads*(workers+1) {
			t.Errorf("%s: %d goroutines for %d loads", w.words, n, loads)
		}
	}
}

// allEnded tells that there are no more goroutines than before. One that has said that it has ended may take a moment yet to do so.
func allEnded(t *testing.T, what string, before int) {
	t.Helper()
	for range 1000 {
		if runtime.NumGoroutine() <= before {
			return
		}
		time.Sleep(time.Millisecond)
	}
	t.Errorf("%s: %d goroutines, %d before", what, runtime.NumGoroutine(), before)
}
