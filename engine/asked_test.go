package engine_test

import (
	"slices"
	"strings"
	"testing"

	"mill/api"
	"mill/engine"
	"mill/simfs"
	"mill/temps"
)

// P12.1: what may be asked, ahead of every call of the file system.
func TestAsked(t *testing.T) {
	bad := options(t, "a")
	bad.Lines = -1
	badStdin := bad
	badStdin.Files = []string{"b", "-"}
	none := options(t, "")
	for _, x := range []struct {
		what          string
		o             api.Options
		noFs, no, out bool // no file system, no standard input, a standard output
		e             api.Errno
	}{
		{"no system", options(t, "a"), true, false, true, api.ErrNil},
		{"no system, bad options", bad, true, false, true, api.ErrNil},
		{"no operands, no input", none, false, true, true, api.ErrNil},
		{"-, no input", options(t, "a -"), false, true, true, api.ErrNil},
		{"-, no input, checks", options(t, "-c -"), false, true, true, api.ErrNil},
		{"-, no input, bad options", badStdin, false, true, true, api.ErrNil},
		{"no output", options(t, "a"), false, false, false, api.ErrNil},
		{"no output, merges", options(t, "-m a"), false, false, false, api.ErrNil},
		{"no output, bad options", bad, false, false, false, api.ErrNil},
		{"bad options", bad, false, false, true, api.ErrJob},
		{"bad options, no input needed", bad, false, true, true, api.ErrJob},
		{"a file, no input", options(t, "a"), false, true, true, api.OK},
		{"-o, no output", options(t, "-o out a"), false, true, false, api.OK},
		{"-c, no output", options(t, "-c a"), false, true, false, api.OK},
		{"-C, no output", options(t, "-C a"), false, true, false, api.OK},
	} {
		s := world{files: files{"a": "x\ny\n"}}.system(t, api.FsConfig{})
		fs, in, out := s, s.Input(nil), s.Sink(-1)
		if x.noFs {
			fs = nil
		}
		if x.no {
			in = nil
		}
		if !x.out {
			out = nil
		}
		stats, e := engine.Run(fs, x.o, in, out)
		want(t, x.what, e, x.e)
		if e != api.OK {
			want(t, x.what+": stats", stats, api.JobStats{})
			want(t, x.what+": calls", s.Stats().Calls, 0)
		}
	}
}

// P12.1, P12.3: the same of Lines, which needs no output.
func TestLinesAsked(t *testing.T) {
	s := world{files: files{"a": "x\n"}}.system(t, api.FsConfig{})
	bad := options(t, "a -")
	bad.Fan = 1
	for _, x := range []struct {
		what string
		fs   *simfs.FS
		o    api.Options
		in   *simfs.File
		e    api.Errno
	}{
		{"no system", nil, bad, nil, api.ErrNil},
		{"no input", s, bad, nil, api.ErrNil},
		{"no operands, no input", s, options(t, ""), nil, api.ErrNil},
		{"bad options", s, bad, s.Input(nil), api.ErrJob},
	} {
		l, e := engine.Lines(x.fs, x.o, x.in)
		want(t, x.what, e, x.e)
		want(t, x.what+": lines", len(l), 0)
		want(t, x.what+": calls", s.Stats().Calls, 0)
	}
	l, e := engine.Lines(s, options(t, "a"), nil)
	want(t, "no output, no input", e, api.OK)
	wantList(t, "lines", l, []string{"x"})
}

// P12.1: every option that no argv says makes ErrJob of each call.
func TestNoJobs(t *testing.T) {
	for what, change := range map[string]func(o *api.Options){
		"a key of field 0":             func(o *api.Options) { o.Keys = []api.Key{{Char: 1}} },
		"17 keys":                      func(o *api.Options) { o.Keys = slices.Repeat([]api.Key{{Field: 1, Char: 1}}, 17) },
		"n and g":                      func(o *api.Options) { o.Mods = api.ModN | api.ModG },
		"a bit that is no modifier":    func(o *api.Options) { o.Mods = 1 << 12 },
		"a separator":                  func(o *api.Options) { o.Tab = 256 },
		"a mode of checks":             func(o *api.Options) { o.Check = 3 },
		"check and merge":              func(o *api.Options) { o.Check, o.Merge = api.CheckLoud, true },
		"check and output":             func(o *api.Options) { o.Check, o.HasOutput = api.CheckLoud, true },
		"check of two":                 func(o *api.Options) { o.Check, o.Files = api.CheckSilent, []string{"a", "a"} },
		"an output that is not asked":  func(o *api.Options) { o.Output = "x" },
		"lines":                        func(o *api.Options) { o.Lines = 1<<20 + 1 },
		"bytes":                        func(o *api.Options) { o.Bytes = 1<<26 + 1 },
		"a fan of 65":                  func(o *api.Options) { o.Fan = 65 },
		"17 workers":                   func(o *api.Options) { o.Parallel = 17 },
		"a prefix":                     func(o *api.Options) { o.Temp = strings.Repeat("x", 33) },
		"129 operands":                 func(o *api.Options) { o.Files = slices.Repeat([]string{"a"}, 129) },
		"a checkpoint, no output":      func(o *api.Options) { o.Checkpoint = "ck" },
		"a checkpoint that is input":   func(o *api.Options) { o.Checkpoint, o.HasOutput, o.Output = "a", true, "x" },
		"a checkpoint of stdin":        func(o *api.Options) { o.Checkpoint, o.HasOutput, o.Output, o.Files = "ck", true, "x", []string{"-"} },
		"a checkpoint and a merge":     func(o *api.Options) { o.Checkpoint, o.HasOutput, o.Output, o.Merge = "ck", true, "x", true },
		"an output that is its .new":   func(o *api.Options) { o.Checkpoint, o.HasOutput, o.Output = "ck", true, "ck.new" },
		"an output that is checkpoint": func(o *api.Options) { o.Checkpoint, o.HasOutput, o.Output = "ck", true, "ck" },
	} {
		o := options(t, "a")
		change(&o)
		s := world{files: files{"a": "x\n"}}.system(t, api.FsConfig{})
		stats, e := engine.Run(s, o, s.Input(nil), s.Sink(-1))
		want(t, what, e, api.ErrJob)
		want(t, what+": stats", stats, api.JobStats{})
		_, e = engine.Lines(s, o, s.Input(nil))
		want(t, what+": Lines", e, api.ErrJob)
		print, e := engine.Fingerprint(o)
		want(t, what+": Fingerprint", e, api.ErrJob)
		want(t, what+": Fingerprint", print, 0)
		want(t, what+": calls", s.Stats().Calls, 0)
	}
}

// P12.1: the fingerprint is that of the words that Print gives.
func TestFingerprint(t *testing.T) {
	seen := map[uint64]string{}
	for _, words := range []string{"", "a", "a b", "ab", "-n", "-nr a", "-k2 a", "-t, -k2,2n --lines=7 a b", "-c", "-o a a", "-o x --checkpoint ck a", "-o x --checkpoint ck -- -a", "--pack", "--parallel=2", "--batch-size=16"} {
		o := options(t, words)
		wanted, _ := modelPrint(o)
		got, e := engine.Fingerprint(o)
		want(t, words, e, api.OK)
		want(t, words, got, wanted)
		if other, ok := seen[got]; ok {
			t.Errorf("%q and %q have one fingerprint", words, other)
		}
		seen[got] = words
	}
	// No words: nothing is done to h.
	got, _ := engine.Fingerprint(options(t, ""))
	want(t, "no words", got, 14695981039346656037)
	got, _ = engine.Fingerprint(options(t, "-n"))
	want(t, "-n", got, func() uint64 {
		h := uint64(14695981039346656037)
		for _, b := range []uint64{'-', 'n', 0} {
			h = (h ^ b) * 1099511628211
		}
		return h
	}())
}

// made are the names of the files that the job of a world makes, but for its output.
func (w world) made(t *testing.T) []string {
	t.Helper()
	var l []string
	for name := range whole(w.states(t)) {
		if _, ok := w.files[name]; !ok && name != w.outputName(t) {
			l = append(l, name)
		}
	}
	slices.Sort(l)
	return l
}

// P12.1: temporary names have the prefix, and are none of the files that are there, nor the output, nor the checkpoint.
func TestNames(t *testing.T) {
	f := files{"a": "b\na\n", "b": "x"}
	for _, x := range []struct {
		w      world
		wanted string
	}{
		{world{files: f, words: "-o out a"}, "mill.00001"},
		{world{files: f, words: "-o out -T t a"}, "t.00001"},
		{world{files: f, words: "--lines=1 a"}, "mill.00001 mill.00002"},
		{world{files: f, words: "--lines=1 -o mill.00002 a"}, "mill.00001 mill.00003 mill.00004"},
		{world{files: f, words: "-o mill.00001 -m a b"}, "mill.00002"},
		{world{files: f.with("mill.00001", ""), words: "-o out a"}, "mill.00002"},
		{world{files: f.with("mill.00001", "z\n"), words: "-o mill.00001 a"}, "mill.00002"},
		{world{files: f, words: "-o out --checkpoint mill.00001 -- a"}, "mill.00001 mill.00002 mill.00003"},
		{world{files: f, words: "-o t.00002 --checkpoint t.00001 -T t --lines=1 -- a"}, "t.00001 t.00003 t.00004 t.00005"},
	} {
		wantList(t, x.w.words, x.w.made(t), strings.Fields(x.wanted))
	}
}

// P12.1: the output's name and the checkpoint's are not even asked for when a name is reserved.
func TestNamesNotAsked(t *testing.T) {
	for _, x := range []struct {
		words string
		stats int
	}{
		// Of the input, and of the name that is given.
		{"-o mill.00001 a", 2},
		{"-o mill.00002 a", 2},
		{"-o a a", 2},
		// Of the checkpoint, the input, and that with .new; of the names of the run and of the output.
		{"-o out --checkpoint ck a", 5},
		{"-o out --checkpoint mill.00001 a", 5},
		{"-o mill.00001 --checkpoint mill.00002 a", 5},
	} {
		w := world{files: files{"a": "b\na\n"}, words: x.words}
		want(t, x.words+": Stats", w.ok(t).fs.Stats().By[api.OpStat], x.stats)
	}
}

// P12.2: the first calls.
func TestFirstCalls(t *testing.T) {
	f := files{"a": "a\n", "b": "b\n"}
	for _, x := range []struct{ words, wanted string }{
		{"a", "stat, open a"},
		{"a b a", "stat, stat, stat, open a"},
		{"a - b", "stat, stat, open a"},
		{"-c a", "stat, open a"},
		{"-m a b b", "stat, stat, stat, open a"},
		{"-o out a", "stat, open a"},
		{"- -", "read"},
		{"-o out --checkpoint ck a b", "stat, stat, stat, stat, open new ck, write ck, sync ck, open a"},
	} {
		wanted := strings.Split(x.wanted, ", ")
		got := world{files: f, words: x.words}.trace(t)
		wantList(t, x.words, got[:min(len(wanted), len(got))], wanted)
	}
}

// P12.2: a journal that is there is looked at first, then the inputs; no other one is begun.
func TestFirstCallsResumed(t *testing.T) {
	w := world{files: files{"a": "a\n"}, words: "-o out --checkpoint ck a"}
	w.files = w.files.with("ck", journal(t, w))
	got := w.trace(t)
	// To append to a file changes nothing: only that it is open is seen.
	wantList(t, w.words, got[:8], []string{"stat", "open ck", "read", "read", "close ck", "open ck", "stat", "open a"})
}

// journal gives the bytes of a journal of a world's job.
func journal(t *testing.T, w world, l ...api.Entry) string {
	t.Helper()
	print, e := engine.Fingerprint(options(t, w.words))
	want(t, "Fingerprint", e, api.OK)
	var b []byte
	for n, x := range append([]api.Entry{{Kind: api.EntryJob, Print: print}}, l...) {
		c, e := temps.Encode(n, x)
		if e != api.OK {
			t.Fatalf("Encode(%d, %+v): %d", n, x, e)
		}
		b = append(b, c...)
	}
	return string(b)
}

// P12.2, P12.10: the first of the first calls that is refused ends the job. Nothing has been made.
func TestFirstRefused(t *testing.T) {
	w := world{files: files{"a": "a\n", "b": "b\n"}}
	for _, x := range []struct {
		words string
		plan  api.FsConfig
		e     api.Errno
		about string
		calls int
	}{
		{"no", api.FsConfig{}, api.ErrMissing, "no", 1},
		{"a no b none", api.FsConfig{}, api.ErrMissing, "no", 2},
		{"-c no", api.FsConfig{}, api.ErrMissing, "no", 1},
		{"-m a - no", api.FsConfig{}, api.ErrMissing, "no", 2},
		{"-o out a no", api.FsConfig{}, api.ErrMissing, "no", 2},
		{"a " + strings.Repeat("x", 65), api.FsConfig{}, api.ErrName, strings.Repeat("x", 65), 2},
		{"a b a", fault(api.OpStat, 3), api.ErrIO, "a", 3},
		{"-o out --checkpoint ck a no b", api.FsConfig{}, api.ErrMissing, "no", 3},
		{"-o out --checkpoint ck a no b", fault(api.OpStat, 1), api.ErrIO, "", 1},
		{"-o out --checkpoint ck a b", fault(api.OpStat, 2), api.ErrIO, "a", 2},
		{"-o out --checkpoint ck a b", fault(api.OpStat, 4), api.ErrIO, "", 4},
		{"-o out --checkpoint ck a b", fault(api.OpOpen, 1), api.ErrIO, "", 5},
		{"-o out --checkpoint ck a b", fault(api.OpWrite, 1), api.ErrIO, "", 8},
		{"-o out --checkpoint " + strings.Repeat("x", 65) + " no", api.FsConfig{}, api.ErrName, "", 1},
		{"-o out --checkpoint " + strings.Repeat("x", 61) + " a", api.FsConfig{}, api.ErrName, "", 3},
	} {
		w.words = x.words
		w.fails(t, x.plan, x.e, x.about)
		want(t, x.words+": calls", w.run(t, x.plan).fs.Stats().Calls, x.calls)
	}
}

// P12.3: Lines gives the lines of all inputs; no file is made, and no journal looked at.
func TestLines(t *testing.T) {
	w := world{files: files{"a": "b\n\na", "b": "", "z": "x\x00y\nz\x00", "ck": "no journal"}, stdin: "s\nt"}
	for words, wanted := range map[string]string{
		"":                             "s,t",
		"a":                            "b,,a",
		"a b a":                        "b,,a,b,,a",
		"- a -":                        "s,t,b,,a",
		"-z z":                         "x,y\nz",
		"-c a":                         "b,,a",
		"-m b a":                       "b,,a",
		"-u --lines=1 a a":             "b,,a,b,,a",
		"-o out --checkpoint ck a":     "b,,a",
		"-o out --parallel=3 -n -k2 a": "b,,a",
	} {
		for _, short := range [][]int{nil, {1, 2}} {
			s := w.system(t, api.FsConfig{Short: short})
			l, e := engine.Lines(s, options(t, words), s.Input([]byte(w.stdin)))
			want(t, words, e, api.OK)
			want(t, words, strings.Join(l, ","), wanted)
			w.unchanged(t, words, s)
			want(t, words+": files made", s.Stats().Made, 0)
		}
	}
}

// P12.3: each call of Lines refused, and the calls that it makes.
func TestLinesRefused(t *testing.T) {
	w := world{files: files{"a": "b\na\n", "b": ""}, stdin: "s\nt"}
	ask := func(plan api.FsConfig, words string) (*simfs.FS, api.Errno) {
		s := w.system(t, plan)
		l, e := engine.Lines(s, options(t, words), s.Input([]byte(w.stdin)))
		want(t, words+": lines beside an error", e == api.OK || len(l) == 0, true)
		w.unchanged(t, words, s)
		return s, e
	}
	s, e := ask(api.FsConfig{}, "-o out --checkpoint ck a b")
	want(t, "Lines", e, api.OK)
	// 2 Stats; of each file Open, Reads, Close.
	want(t, "calls", s.Stats().By, [api.Ops]int{api.OpStat: 2, api.OpOpen: 2, api.OpRead: 3, api.OpClose: 2})
	for _, x := range []struct {
		op    api.Op
		times int
	}{{api.OpStat, 2}, {api.OpOpen, 2}, {api.OpRead, 5}, {api.OpClose, 2}} {
		for n := 1; n <= x.times; n++ {
			_, e := ask(fault(x.op, n), "a b -")
			want(t, kinds[x.op], e, api.ErrIO)
		}
	}
	_, e = ask(api.FsConfig{}, "a no")
	want(t, "a missing file", e, api.ErrMissing)
	_, e = ask(api.FsConfig{Interrupt: 1}, "a b -")
	want(t, "interrupt", e, api.ErrStop)
	for cut := 1; ; cut++ {
		s := w.system(t, api.FsConfig{Power: cut})
		_, e := engine.Lines(s, options(t, "a b -"), s.Input([]byte(w.stdin)))
		if e == api.OK {
			break
		}
		want(t, "power", e, api.ErrPower)
		want(t, "calls behind a loss of power", s.Stats().Calls, cut)
	}
	w.files = w.files.with("long", "x\n"+strings.Repeat("y", 65537))
	_, e = ask(api.FsConfig{}, "long")
	want(t, "a line that is too long", e, api.ErrLong)
}
