package engine_test

import (
	"fmt"
	"slices"
	"strings"
	"testing"

	"mill/api"
	"mill/simfs"
)

// jobs are worlds of all kinds of jobs; of each the output fits into one Write.
func jobs() []world {
	f := files{"a": each("d b d a c"), "b": each("a e"), "c": ""}
	sorted := files{"a": each("a c d"), "b": each("b c"), "c": ""}
	var l []world
	for _, words := range []string{
		"a b c", "-o out b a", "-o a a b", "- a", "-u -o b -",
		"--lines=2 a b", "--lines=1 --batch-size=2 a b", "--lines=2 --batch-size=2 -o out a b c", "--lines=1 --batch-size=2 --pack -o b a b", "-u --lines=2 --batch-size=2 -o out b a a",
		"--lines=2 --parallel=2 --batch-size=3 a b", "--lines=1 --parallel=3 --batch-size=2 -o out -",
		"--checkpoint ck -o out a b", "--checkpoint ck -o a --lines=2 --batch-size=2 a b", "--checkpoint ck -o out c", "-u --checkpoint ck -o out --lines=1 --batch-size=2 -T t b a",
	} {
		l = append(l, world{files: f, words: words, stdin: each("c d")})
	}
	for _, words := range []string{"-m a b c", "-m -o b a b", "-m --batch-size=2 a - b c", "-m --batch-size=2 -u -o out b a a -", "-m -o out -"} {
		l = append(l, world{files: sorted, words: words, stdin: each("c d")})
	}
	return l
}

// stands tells the number of the call behind which the output of a world's job stands: the renaming, or the last one that is no Remove.
func (w world) stands(t *testing.T, trace []string) int {
	t.Helper()
	if w.outputName(t) != "" {
		return 1 + slices.IndexFunc(trace, func(call string) bool { return strings.HasPrefix(call, "rename") })
	}
	n := len(trace)
	for n > 0 && strings.HasPrefix(trace[n-1], "remove") {
		n--
	}
	return n
}

// nth tells of which kind a call of a trace is, and which of that kind.
func nth(trace []string, n int) (api.Op, int) {
	kind := func(call string) string { return strings.Fields(call)[0] }
	k := 0
	for _, call := range trace[:n] {
		if kind(call) == kind(trace[n-1]) {
			k++
		}
	}
	return api.Op(slices.Index(kinds[:], kind(trace[n-1]))), k
}

// endsClean tells that a job that has ended with an error has left all as it was.
func (w world) endsClean(t *testing.T, what string, r result, e api.Errno) {
	t.Helper()
	want(t, what, r.e, e)
	stats := r.stats
	stats.File = ""
	want(t, what+": stats", stats, api.JobStats{})
	w.unchanged(t, what, r.fs)
}

// blamed tells of which input a call is, by what is open when it comes: "" if of none. It is for jobs that read one input after the other, and all ahead of the first run.
func (w world) blamed(t *testing.T, states []state, trace []string, n int) string {
	t.Helper()
	o := options(t, w.words)
	var asked []string
	if o.Checkpoint != "" {
		asked = []string{""}
	}
	for _, name := range o.Files {
		if name != "-" {
			asked = append(asked, name)
		}
	}
	op, _ := nth(trace, n)
	name, _ := strings.CutPrefix(trace[n-1], kinds[op]+" ")
	switch op {
	case api.OpStat:
		return append(asked, make([]string, len(trace))...)[n-1]
	case api.OpOpen, api.OpClose:
		if slices.Contains(o.Files, name) {
			return name
		}
	case api.OpRead:
		for name, open := range states[n-1].open {
			switch {
			case open && slices.Contains(o.Files, name):
				return name
			case open && slices.Contains(trace[:n], "open "+name):
				// A run: it was opened to read.
				return ""
			}
		}
		return "-"
	}
	return ""
}

// W3, P12.10: each call refused. Ahead of the output's standing that ends the job, and all is as it was; behind it it goes by.
func TestEachCallRefused(t *testing.T) {
	for _, w := range jobs() {
		trace, m := w.trace(t), model(t, w)
		stands := w.stands(t, trace)
		for n := 1; n <= len(trace); n++ {
			op, k := nth(trace, n)
			plans := []api.FsConfig{fault(op, k)}
			if op == api.OpWrite {
				plans = append(plans, api.FsConfig{Faults: []api.Fault{{Op: op, Nth: k, Space: true}}})
			}
			for i, plan := range plans {
				if op == api.OpRemove {
					continue
				}
				what := fmt.Sprintf("%s, call %d, %s, refused", w.words, n, trace[n-1])
				r := w.run(t, plan)
				if n > stands {
					w.comes(t, what, r, m)
					continue
				}
				w.endsClean(t, what, r, []api.Errno{api.ErrIO, api.ErrSpace}[i])
				if !strings.HasPrefix(m.out, r.out) {
					t.Errorf("%s: put out %q of %q", what, r.out, m.out)
				}
			}
		}
	}
}

// P12.10: JobStats names the input of which a call was refused, and nothing else.
func TestBlame(t *testing.T) {
	for _, w := range jobs() {
		if strings.Contains(w.words, "-m") {
			continue
		}
		states, trace := w.states(t), w.trace(t)
		for n := 1; n <= w.stands(t, trace); n++ {
			op, k := nth(trace, n)
			r := w.run(t, fault(op, k))
			want(t, fmt.Sprintf("%s, call %d, %s, refused: the input", w.words, n, trace[n-1]), r.stats.File, w.blamed(t, states, trace, n))
		}
	}
}

// P12.10: the inputs of a merge.
func TestBlameOfMerge(t *testing.T) {
	w := world{files: files{"a": each("a b"), "b": each("b")}, words: "-m --batch-size=2 a - b", stdin: each("a c")}
	// stat a, b; the first step: Opens of its file, of a; Reads: a, -, then their ends; the second: Opens of b, of the run.
	for _, x := range []struct {
		op  api.Op
		nth int
		e   string
	}{
		{api.OpStat, 1, "a"}, {api.OpStat, 2, "b"}, {api.OpStat, 3, ""}, {api.OpOpen, 1, ""}, {api.OpOpen, 2, "a"}, {api.OpOpen, 3, "b"}, {api.OpOpen, 4, ""},
		{api.OpRead, 1, "a"}, {api.OpRead, 2, "-"}, {api.OpRead, 3, "a"}, {api.OpRead, 4, "-"}, {api.OpRead, 5, ""}, {api.OpRead, 6, "b"},
		{api.OpClose, 1, "a"}, {api.OpClose, 2, ""}, {api.OpClose, 3, "b"}, {api.OpClose, 4, ""}, {api.OpWrite, 1, ""},
	} {
		r := w.run(t, fault(x.op, x.nth))
		w.endsClean(t, fmt.Sprintf("%s %d", kinds[x.op], x.nth), r, api.ErrIO)
		want(t, fmt.Sprintf("%s %d: the input", kinds[x.op], x.nth), r.stats.File, x.e)
	}
}

// P12.10: a line that is too long ends the job, wherever it is.
func TestTooLong(t *testing.T) {
	long := strings.Repeat("x", 65537)
	w := world{files: files{"a": "a\n", "b": "b\n" + long + "\nc\n"}, stdin: long}
	for words, file := range map[string]string{"a b": "b", "-o out a b": "b", "--lines=1 a b": "b", "--checkpoint ck -o b --lines=1 a b": "b", "-m a b": "b", "a -": "-", "": "-", "-m --batch-size=2 a a b": "b"} {
		w.words = words
		w.fails(t, api.FsConfig{}, api.ErrLong, file)
	}
	w.words = "-z b"
	want(t, "one that ends with another byte", w.run(t, api.FsConfig{}).e, api.ErrLong)
	w.files["b"] = strings.Repeat("\n", 65537)
	w.words = "b"
	want(t, "many short ones", w.run(t, api.FsConfig{}).e, api.OK)
}

// W3: two calls refused, the second of them on the way out or wherever: the error is that of the first one.
func TestTwoCallsRefused(t *testing.T) {
	for _, w := range jobs() {
		trace, m := w.trace(t), model(t, w)
		stands := w.stands(t, trace)
		for n := 1; n <= len(trace); n++ {
			op, k := nth(trace, n)
			if op == api.OpRemove {
				continue
			}
			for _, second := range []api.Op{api.OpClose, api.OpWrite, api.OpSync} {
				for more := range 6 {
					_, behind := nth(append(slices.Clone(trace[:n]), kinds[second]), n+1)
					plan := api.FsConfig{Faults: []api.Fault{{Op: op, Nth: k}, {Op: second, Nth: behind + more}}}
					r := w.run(t, plan)
					what := fmt.Sprintf("%s, %v", w.words, plan)
					if n > stands {
						w.comes(t, what, r, m)
					} else {
						w.endsClean(t, what, r, api.ErrIO)
					}
				}
			}
		}
	}
}

// W3: every limit of the system: room, files, handles.
func TestLimits(t *testing.T) {
	for _, w := range jobs() {
		w.room = api.FsConfig{Capacity: 1 << 20, Files: 100, Handles: 100}
		m := model(t, w)
		at := 0
		for _, data := range w.files {
			at += len(data)
		}
		tries := func(what string, set func(c *api.FsConfig, n int), from int, e api.Errno) {
			done := 0
			for n := from; done < 3; n++ {
				set(&w.room, n)
				r := w.run(t, api.FsConfig{})
				what := fmt.Sprintf("%s, %s %d", w.words, what, n)
				if r.e == api.OK {
					done++
					w.comes(t, what, r, m)
					continue
				}
				want(t, what+": behind a wider one", done, 0)
				w.endsClean(t, what, r, e)
			}
		}
		tries("capacity", func(c *api.FsConfig, n int) { c.Capacity = n }, at, api.ErrSpace)
		tries("files", func(c *api.FsConfig, n int) { c.Files = n }, len(w.files), api.ErrFull)
		tries("handles", func(c *api.FsConfig, n int) { c.Handles = n }, 1, api.ErrHandles)
	}
}

// W3: a standard output that takes no more, closed ones, and streams that do not do what is asked of them.
func TestStreams(t *testing.T) {
	for _, w := range jobs() {
		if w.outputName(t) != "" {
			continue
		}
		m := model(t, w)
		for room := range len(m.out) + 2 {
			s := w.system(t, api.FsConfig{})
			sink := s.Sink(room)
			r := w.onto(t, s, s.Input([]byte(w.stdin)), sink)
			what := fmt.Sprintf("%s, %d bytes", w.words, room)
			want(t, what+": put out", string(sink.Taken()), m.out[:min(room, len(m.out))])
			if room < len(m.out) {
				w.endsClean(t, what, r, api.ErrSpace)
			} else {
				want(t, what, r.e, api.OK)
			}
		}
		s := w.system(t, api.FsConfig{})
		shut := s.Sink(-1)
		shut.Close()
		w.endsClean(t, w.words+": a closed output", w.onto(t, s, s.Input([]byte(w.stdin)), shut), api.ErrClosed)
		w.endsClean(t, w.words+": an output that reads", w.onto(t, s, s.Input([]byte(w.stdin)), s.Input(nil)), api.ErrMode)
		w.endsClean(t, w.words+": one of nobody's", w.onto(t, s, s.Input([]byte(w.stdin)), &simfs.File{}), api.ErrNil)
	}
	w := world{files: files{"a": "a\n"}, words: "a -"}
	s := w.system(t, api.FsConfig{})
	r := w.onto(t, s, s.Sink(-1), s.Sink(-1))
	w.endsClean(t, "an input that writes", r, api.ErrMode)
	want(t, "the input", r.stats.File, "-")
	r = w.onto(t, s, &simfs.File{}, s.Sink(-1))
	w.endsClean(t, "an input of nobody's", r, api.ErrNil)
}

// P12.10, DOC.md's Words: '-' is not closed, nor is the standard output.
func TestStreamsStayOpen(t *testing.T) {
	for _, words := range []string{"-", "- -", "a - a", "-m - a -", "-c -", "--lines=1 -"} {
		w := world{files: files{"a": "a\n"}, words: words}
		s := w.system(t, api.FsConfig{})
		in, out := s.Input([]byte("b\n")), s.Sink(-1)
		want(t, words, w.onto(t, s, in, out).e, api.OK)
		_, e := in.Read(1)
		want(t, words+": input", e, api.OK)
		_, e = out.Write([]byte("x"))
		want(t, words+": output", e, api.OK)
	}
}

// P12.10: names that a file may not have, and files that are open elsewhere.
func TestNamesRefused(t *testing.T) {
	w := world{files: files{"a": "b\na\n"}, words: "-o " + strings.Repeat("x", 65) + " a"}
	w.fails(t, api.FsConfig{}, api.ErrName, "")
	w.words = "-o out --lines=1 a"
	s := w.system(t, api.FsConfig{})
	f, e := s.Open("out", api.ModeNew)
	want(t, "Open", e, api.OK)
	r := w.on(t, s)
	want(t, "an output that is open", r.e, api.ErrBusy)
	want(t, "stats", r.stats, api.JobStats{})
	want(t, "Close", f.Close(), api.OK)
	want(t, "files", held(s), w.files.with("out", "").String())
	f, _ = s.Open("a", api.ModeAppend)
	r = w.on(t, s)
	want(t, "an input that is open to write", r.e, api.ErrBusy)
	want(t, "stats", r.stats, api.JobStats{File: "a"})
	f.Close()
	want(t, "files", held(s), w.files.with("out", "").String())
	f, _ = s.Open("a", api.ModeRead)
	w.words = "-o a a"
	want(t, "an output that is open to read", w.on(t, s).e, api.ErrBusy)
	want(t, "the input as the output", w.onto(t, s, f, nil).e, api.ErrBusy)
	f.Close()
	want(t, "files", held(s), w.files.with("out", "").String())
}

// P12.10: behind the standing of the output all that is left to do is tried, whatever it answers.
func TestTriedBehindTheOutput(t *testing.T) {
	w := world{files: files{"a": each("c b a")}, words: "--lines=1 -o out a"}
	// Three runs are removed.
	for n := 1; n <= 3; n++ {
		r := w.run(t, fault(api.OpRemove, n))
		want(t, "a Remove refused", r.e, api.OK)
		want(t, "stats", r.stats, api.JobStats{Lines: 3, Resident: 3, Runs: 3, Passes: 1, Out: 3})
		want(t, "Removes", r.fs.Stats().By[api.OpRemove], 3)
		left := fmt.Sprintf("mill.%05d", n)
		_, is := r.fs.Look(left)
		want(t, left+" is there", is, true)
		want(t, "how many files are left", len(r.fs.Names()), 3)
	}
	w.words = "--lines=1 a"
	want(t, "a Remove refused", w.run(t, fault(api.OpRemove, 2)).e, api.OK)
	w.words = "--lines=1 --checkpoint ck -o out a"
	for n := 1; n <= 4; n++ {
		r := w.run(t, fault(api.OpRemove, n))
		want(t, "a Remove refused", r.e, api.OK)
		want(t, "Removes", r.fs.Stats().By[api.OpRemove], 4)
		want(t, "how many files are left", len(r.fs.Names()), 3)
	}
	all := w.ok(t).fs.Stats().By
	for _, op := range []api.Op{api.OpWrite, api.OpSync, api.OpClose} {
		r := w.run(t, fault(op, all[op]))
		want(t, "the last "+kinds[op]+" refused", r.e, api.OK)
		w.done(t, "the last "+kinds[op]+" refused", r.fs, r.out, model(t, w))
	}
}

// P12.10: a Remove that is refused ahead of the standing ends the job; on the way out it goes by.
func TestRemoveRefused(t *testing.T) {
	w := world{files: files{"a": each("c b a")}, words: "--lines=1 --batch-size=2 -o out a"}
	for n := 1; n <= 2; n++ {
		r := w.run(t, fault(api.OpRemove, n))
		w.endsClean(t, "a Remove ahead of the output refused", r, api.ErrIO)
	}
	for n := 1; n <= 2; n++ {
		plan := fault(api.OpRemove, n)
		plan.Faults = append(plan.Faults, api.Fault{Op: api.OpOpen, Nth: 4})
		r := w.run(t, plan)
		want(t, "a Remove on the way out refused", r.e, api.ErrIO)
		_, is := r.fs.Look(fmt.Sprintf("mill.%05d", n))
		want(t, "the file is there", is, true)
		want(t, "how many files are left", len(r.fs.Names()), 2)
	}
}

// P12.10: behind a call that answered ErrPower there is no further one, but those of Begin.
func TestNoCallInTheDark(t *testing.T) {
	for _, w := range jobs() {
		trace := w.trace(t)
		stands := w.stands(t, trace)
		for cut := 1; cut <= len(trace); cut++ {
			r := w.run(t, api.FsConfig{Power: cut})
			what := fmt.Sprintf("%s, no power at call %d, %s", w.words, cut, trace[cut-1])
			if cut > stands {
				want(t, what, r.e, api.OK)
			} else {
				want(t, what, r.e, api.ErrPower)
			}
			calls := cut
			if i := slices.Index(trace, "open new ck"); i >= 0 && (cut == i+2 || cut == i+3) {
				calls += 2
			}
			want(t, what+": calls", r.fs.Stats().Calls, calls)
		}
	}
}

// P12.10: the power is lost on the way out: the error is the one that came first, and there is no further call.
func TestPowerOnTheWayOut(t *testing.T) {
	for _, w := range jobs() {
		trace := w.trace(t)
		for n := 1; n <= w.stands(t, trace); n++ {
			op, k := nth(trace, n)
			if op == api.OpRemove {
				continue
			}
			for more := 1; more < 9; more++ {
				plan := fault(op, k)
				plan.Power = n + more
				r := w.run(t, plan)
				what := fmt.Sprintf("%s, %v", w.words, plan)
				want(t, what, r.e, api.ErrIO)
				ofBegin := strings.HasSuffix(trace[n-1], " ck") && n < 9
				if calls := r.fs.Stats().Calls; calls > n+more && !ofBegin {
					t.Errorf("%s: %d calls", what, calls)
				}
			}
		}
	}
}

// P12.10: the error of an input is of that input, even where others are refused on the way out.
func TestFirstErrorCounts(t *testing.T) {
	w := world{files: files{"a": "a\n", "b": "b\n"}, words: "-o out --lines=1 a b"}
	plan := api.FsConfig{Faults: []api.Fault{{Op: api.OpRead, Nth: 4}, {Op: api.OpClose, Nth: 2}, {Op: api.OpClose, Nth: 3}}}
	w.fails(t, plan, api.ErrIO, "b")
}
