package sortcmd_test

import (
	"fmt"
	"math/rand"
	"reflect"
	"slices"
	"strings"
	"testing"

	"mill/api"
	"mill/keyspec"
	"mill/simfs"
	"mill/sortcmd"
)

// P13.3: without a system nothing happens, whatever the words.
func TestNoSystem(t *testing.T) {
	w := world{files: files{"a": "b\na\n"}, stdin: "x\n"}
	for _, words := range []string{"", "a", "-q", "-c a", "-C a", "-o a a", "--checkpoint ck -o out a"} {
		s := w.system(t, api.FsConfig{})
		out, errs := s.Sink(-1), s.Sink(-1)
		want(t, words+": status", sortcmd.Run(nil, strings.Fields(words), s.Input([]byte(w.stdin)), out, errs), 2)
		want(t, words+": put out", string(out.Taken())+string(errs.Taken()), "")
		want(t, words+": calls", s.Stats().Calls, 0)
		w.unchanged(t, words, s)
		want(t, words+": status without streams", sortcmd.Run(nil, strings.Fields(words), nil, nil, nil), 2)
	}
}

// refused tells that words are refused, with these diagnostics: of the system nothing is asked but their Write.
func refused(t *testing.T, argv []string, errs string) {
	t.Helper()
	what := fmt.Sprintf("%.200q", argv)
	w := world{files: files{"a": "b\na\n", "ck": "", "ck.new": ""}, argv: argv, stdin: "b\na\n"}
	before := slices.Clone(argv)
	s := w.system(t, api.FsConfig{})
	in, out, to := s.Input([]byte(w.stdin)), s.Sink(-1), s.Sink(-1)
	want(t, what+": status", sortcmd.Run(s, argv, in, out, to), 2)
	want(t, what+": diagnostics", string(to.Taken()), errs)
	want(t, what+": put out", string(out.Taken()), "")
	want(t, what+": calls", s.Stats().By, [api.Ops]int{api.OpWrite: 1})
	w.unchanged(t, what, s)
	s = w.system(t, api.FsConfig{})
	want(t, what+": status without diagnostics", sortcmd.Run(s, argv, in, out, nil), 2)
	want(t, what+": calls without diagnostics", s.Stats().Calls, 0)
	want(t, what+": words are as they were", slices.Equal(argv, before), true)
}

// P13.3: words that are refused, by hand.
func TestRefusedWords(t *testing.T) {
	for words, errs := range map[string]string{
		"-q": "unknown option: -q", "a -nq b": "unknown option: -nq", "--nothing": "unknown option: --nothing", "--sort=n a": "unknown option: --sort=n", "-k 1 -x": "unknown option: -x",
		"-k": "option needs a value: -k", "a -nk": "option needs a value: -nk", "--key": "option needs a value: --key", "--lines": "option needs a value: --lines",
		"--stable=1 a": "option takes no value: --stable=1",
		"-k0 a":        "bad key: -k0", "-k 0 a": "bad key: -k", "a --key=x": "bad key: --key=x", "a b -n --key 1,": "bad key: --key",
		"--lines=0": "bad number: --lines=0", "-S 1X a": "bad number: -S", "--batch-size=65": "bad number: --batch-size=65",
		"-t ab a": "bad field separator: -t", "-t: -t; a": "bad field separator: -t;",
		"-cC a": "options do not go together: -cC", "-o x -o y": "options do not go together: -o",
		"-c -m a": "options do not go together", "-co x": "options do not go together", "--checkpoint ck a": "options do not go together",
		"--s a": "ambiguous option: --s", "--ch": "ambiguous option: --ch",
		"-k1nd a": "modifiers do not go together: -k1nd", "-nd a": "modifiers do not go together", "-n -M": "modifiers do not go together",
		"-c a b": "bad operand", "--checkpoint= a": "bad operand: --checkpoint=",
		// The first of several.
		"-k0 -q": "bad key: -k0", "-q -k0": "unknown option: -q",
		// Not looked for: a file that is not there.
		"missing -q": "unknown option: -q",
	} {
		refused(t, strings.Fields(words), "sort: "+errs+"\n")
	}
	refused(t, []string{"-T", ""}, "sort: bad operand: -T\n")
	refused(t, []string{"-T" + strings.Repeat("x", api.MaxPrefix+1)}, "sort: bad operand: -T"+strings.Repeat("x", api.MaxPrefix+1)+"\n")
	refused(t, []string{"a", "-\n"}, "sort: unknown option: -\\x0a\n")
	refused(t, []string{"--\\\xff\x00=\t"}, "sort: unknown option: --\\\\\\xff\\x00=\\x09\n")
	refused(t, []string{"-k 1"}, "sort: bad key: -k 1\n")
}

// P13.3: words above their bounds: too many, and too long.
func TestWordsAboveBounds(t *testing.T) {
	many := slices.Repeat([]string{"-n"}, api.MaxWords)
	refused(t, append(slices.Clone(many), "one more"), "sort: error 2: one more\n")
	refused(t, append(slices.Clone(many), "", "-q"), "sort: error 2\n")
	refused(t, append([]string{"-q"}, many...), "sort: error 2: -n\n")
	long := strings.Repeat("x", api.MaxWord+1)
	refused(t, []string{"-q", long}, "sort: error 2: "+long+"\n")
	long = "-" + strings.Repeat("\xe4", api.MaxWord)
	refused(t, []string{long, "a"}, "sort: error 2: -"+strings.Repeat(`\xe4`, api.MaxWord)+"\n")
	refused(t, []string{long[:api.MaxWord]}, "sort: unknown option: -"+strings.Repeat(`\xe4`, api.MaxWord-1)+"\n")
	refused(t, append(slices.Repeat([]string{"a"}, api.MaxOperands), "b"), "sort: bad operand\n")
	w := world{stdin: "2\n10\n", argv: many}
	w.ends(t, 0, "2\n10\n", "")
}

// P13.3: words of all kinds: what layer 4 refuses is told of the word with that number; nothing else is refused like that.
func TestWordsLikeLayer4(t *testing.T) {
	r := rand.New(rand.NewSource(13))
	pieces := []string{"-", "--", "k", "1", ",2", "n", "d", "r", "c", "C", "m", "u", "o", "t", ":", "S", "T", "q", "lines=", "key=", "check", "pack", "s", "checkpoint=", "ck", "0", "x", " ", "\n", "=", "\xff"}
	for range 20000 {
		argv := make([]string, r.Intn(5))
		for i := range argv {
			for range r.Intn(4) {
				argv[i] += pieces[r.Intn(len(pieces))]
			}
		}
		_, place, e := keyspec.Parse(argv)
		if e == api.OK {
			continue
		}
		line := "sort: " + textOf(e)
		if place < len(argv) {
			line += ": " + nameOf(argv[place])
		}
		refused(t, argv, line+"\n")
	}
}

// P13.3: what the work ends with, by hand: the status, and what is told about which file.
func TestErrors(t *testing.T) {
	long := strings.Repeat("x", api.MaxLine+1)
	w := world{files: files{"a": "b\na\n", "b": "c\n", "long": "y\n" + long, "ck": "x", "old.new": ""}, stdin: long}
	name := strings.Repeat("n", api.MaxName+1)
	for words, errs := range map[string]string{
		"a missing b": "no such file: missing", "-m missing": "no such file: missing", "-c missing": "no such file: missing", "-C missing": "no such file: missing", "-o out missing": "no such file: missing",
		name: "bad name: " + name, "-o " + name + " a": "bad name",
		"a long": "line too long: long", "-o a long": "line too long: long", "a -": "line too long: -", "": "line too long: -", "-c -": "line too long: -", "-C long": "line too long: long",
		"--checkpoint ck -o out a": "bad checkpoint", "--checkpoint old -o out a": "file exists",
	} {
		w.words(words).ends(t, 2, "", "sort: "+errs+"\n")
	}
	w.argv = []string{"a", ""}
	w.ends(t, 2, "", "sort: bad name\n")
	w.argv = []string{"\\\x01"}
	w.ends(t, 2, "", "sort: no such file: \\\\\\x01\n")
}

// P13.3: what calls that are refused end with.
func TestRefusedCalls(t *testing.T) {
	w := world{files: files{"a": "b\na\n", "b": "c\n"}, stdin: "x\n"}
	noSpace := fault(api.OpWrite, 1)
	noSpace.Faults[0].Space = true
	for _, x := range []struct {
		words string
		plan  api.FsConfig
		errs  string
	}{
		{"a b", fault(api.OpStat, 2), "device error: b"},
		{"a b", fault(api.OpOpen, 1), "device error: a"},
		{"a b", fault(api.OpRead, 3), "device error: b"},
		{"a b", fault(api.OpClose, 2), "device error: b"},
		{"a -", fault(api.OpRead, 3), "device error: -"},
		{"-c a", fault(api.OpRead, 1), "device error: a"},
		{"-C b", fault(api.OpRead, 2), "device error: b"},
		{"-o a a b", fault(api.OpSync, 1), "device error"},
		{"-o a a b", fault(api.OpRename, 1), "device error"},
		{"-o a a b", noSpace, "no space left"},
		{"-o a a b", fault(api.OpWrite, 1), "device error"},
		{"a b", fault(api.OpWrite, 1), "device error"},
		{"a", api.FsConfig{Interrupt: 1}, "interrupted"},
	} {
		r := w.words(x.words).run(t, x.plan)
		status := 2
		if x.plan.Interrupt > 0 {
			status = 130
		}
		w.stops(t, fmt.Sprintf("%s, %v", x.words, x.plan), r, modelled{}, status, "sort: "+x.errs+"\n")
	}
	for _, room := range []struct {
		c    api.FsConfig
		errs string
	}{
		{api.FsConfig{Capacity: 9, Files: 9, Handles: 9}, "no space left"},
		{api.FsConfig{Capacity: 99, Files: 2, Handles: 9}, "too many files"},
		{api.FsConfig{Capacity: 99, Files: 9, Handles: 1}, "too many open files"},
	} {
		w.room = room.c
		w.words("-o out --lines=1 a b").ends(t, 2, "", "sort: "+room.errs+"\n")
	}
}

// P13.3: files that are open elsewhere, and the power off.
func TestBusyAndDark(t *testing.T) {
	w := world{files: files{"a": "b\na\n"}, argv: []string{"a"}}
	s := w.system(t, api.FsConfig{})
	f, e := s.Open("a", api.ModeAppend)
	want(t, "Open", e, api.OK)
	r := w.on(s)
	want(t, "an input that is open to write", r.status, 2)
	want(t, "diagnostics", r.errs, "sort: file is open: a\n")
	f.Close()
	s = w.system(t, api.FsConfig{})
	s.Open("a", api.ModeRead)
	r = w.words("-o a a").on(s)
	want(t, "an output that is open to read", r.status, 2)
	want(t, "diagnostics", r.errs, "sort: file is open\n")
	s = w.system(t, api.FsConfig{})
	s.Cut()
	r = w.on(s)
	want(t, "no power", r.status, 2)
	// Their Write is refused, too.
	want(t, "diagnostics", r.errs, "")
	// The diagnostics may go where there is power.
	light := w.system(t, api.FsConfig{})
	errs := light.Sink(-1)
	want(t, "no power", sortcmd.Run(s, w.argv, nil, s.Sink(-1), errs), 2)
	want(t, "diagnostics", string(errs.Taken()), "sort: no power: a\n")
}

// P13.3: checks: the three ways in which they end, told or not.
func TestChecks(t *testing.T) {
	for _, w := range checks() {
		m := w.model(t)
		w.ends(t, m.status, "", m.errs)
	}
	w := world{files: files{"a\\\n": "2\n10\n1\n"}, stdin: "a\x00b\nc\x00\xff\x00b\x00"}
	w.argv = []string{"-cn", "a\\\n"}
	w.ends(t, 1, "", "sort: a\\\\\\x0a:3: disorder: 1\n")
	w.argv = []string{"-c", "a\\\n"}
	w.ends(t, 1, "", "sort: a\\\\\\x0a:2: disorder: 10\n")
	w.words("-cz").ends(t, 1, "", "sort: -:4: disorder: b\n")
	w.words("-cuzr").ends(t, 1, "", "sort: -:2: disorder: b\\x0ac\n")
	w.stdin = "a\n\n"
	w.words("-c").ends(t, 1, "", "sort: -:2: disorder: \n")
}

// P13.3: no temporary file stands for what it isn't: runs that somebody has changed between two lives.
func TestSpoiltRuns(t *testing.T) {
	w := world{files: files{"a": each("c b a")}}.words("--checkpoint ck -o out --lines=1 a")
	for cut := 1; ; cut++ {
		s := w.system(t, api.FsConfig{Power: cut})
		if w.on(s); !s.Stats().Dark {
			t.Fatal("no journal says that all runs stand")
		}
		want(t, "Reboot", s.Reboot(0), api.OK)
		// The run of the last line stands, and its entry.
		if run, ok := s.Look("mill.00003"); !ok || len(run) == 0 {
			continue
		}
		run, _ := s.Look("mill.00001")
		for _, x := range []struct{ data, errs string }{{string(run[:len(run)-1]), "temporary file torn"}, {string(run) + "x", "temporary file spoilt"}, {"this is no run at all", "error 70"}} {
			again := w.system(t, api.FsConfig{})
			for name, data := range held(s).with("mill.00001", x.data) {
				again.Put(name, []byte(data))
			}
			w.stops(t, x.errs, w.on(again), modelled{}, 2, "sort: "+x.errs+"\n")
		}
		other := w.words("--checkpoint ck -o out --lines=2 a")
		before := held(s).String()
		r := other.on(s)
		want(t, "another job", r.status, 2)
		want(t, "another job: diagnostics", r.errs, "sort: checkpoint of another job\n")
		want(t, "another job: files", held(s).String(), before)
		return
	}
}

// P13.4: the diagnostics are one Write, which may be refused: the status is the same.
func TestOneWrite(t *testing.T) {
	w := world{files: files{"a": "b\na\n"}, stdin: "b\na\n"}
	for words, x := range map[string]struct {
		status, writes int
		errs           string
	}{
		"-q": {2, 1, "sort: unknown option: -q\n"}, "missing": {2, 1, "sort: no such file: missing\n"}, "-c a": {1, 1, "sort: a:2: disorder: a\n"}, "-c": {1, 1, "sort: -:2: disorder: a\n"},
		"-C a": {1, 0, ""}, "a": {0, 1, ""}, "-o out a": {0, 1, ""}, "-c -r a": {0, 0, ""},
	} {
		w := w.words(words)
		s := w.system(t, api.FsConfig{})
		told := 0
		if x.errs != "" {
			told = 1
		}
		shut := s.Sink(-1)
		shut.Close()
		run := func(errs *simfs.File) int {
			want(t, "Arm", s.Arm(api.FsConfig{}), api.OK)
			return sortcmd.Run(s, w.argv, s.Input([]byte(w.stdin)), s.Sink(-1), errs)
		}
		for i, errs := range []*simfs.File{s.Sink(-1), s.Sink(0), s.Sink(7), shut, s.Input(nil)} {
			want(t, words+": status", run(errs), x.status)
			want(t, words+": Writes", s.Stats().By[api.OpWrite], x.writes)
			room := []int{len(x.errs), 0, 7, 0, 0}[i]
			want(t, words+": diagnostics", string(errs.Taken()), x.errs[:min(room, len(x.errs))])
		}
		want(t, words+": status without diagnostics", run(nil), x.status)
		want(t, words+": Writes without diagnostics", s.Stats().By[api.OpWrite], x.writes-told)
		want(t, words+": status with diagnostics that nobody made", run(&simfs.File{}), x.status)
		for _, space := range []bool{false, true} {
			plan := fault(api.OpWrite, 1)
			plan.Faults[0].Space = space
			if told == 1 {
				r := w.run(t, plan)
				want(t, words+": status", r.status, x.status)
				want(t, words+": diagnostics", r.errs, "")
			}
		}
	}
}

// P13.4: the diagnostics may be a file.
func TestDiagnosticsIntoFile(t *testing.T) {
	w := world{files: files{"a": "b\na\n", "log": "x\n"}}
	s := w.system(t, api.FsConfig{})
	f, e := s.Open("log", api.ModeAppend)
	want(t, "Open", e, api.OK)
	want(t, "status", sortcmd.Run(s, []string{"-c", "a"}, nil, nil, f), 1)
	want(t, "status", sortcmd.Run(s, []string{"-Z"}, nil, nil, f), 2)
	_, e = f.Write([]byte("y"))
	want(t, "it stays open", e, api.OK)
	want(t, "Close", f.Close(), api.OK)
	want(t, "files", held(s).String(), w.files.with("log", "x\nsort: a:2: disorder: a\nsort: unknown option: -Z\ny").String())
}

// P13.4: in and out may be nil just where layer 12 allows it.
func TestNoStreams(t *testing.T) {
	w := world{files: files{"a": "b\na\n"}}
	for _, x := range []struct {
		words   string
		in, out bool // whether there must be one
	}{{"a", false, true}, {"", true, true}, {"a -", true, true}, {"-c a", false, false}, {"-C", true, false}, {"-o out a", false, false}, {"-o out -", true, false}, {"-m a a", false, true}, {"--checkpoint ck -o out a", false, false}} {
		for i := range 4 {
			s := w.system(t, api.FsConfig{})
			var in, out *simfs.File
			if i&1 == 0 {
				in = s.Input([]byte("b\na\n"))
			}
			if i&2 == 0 {
				out = s.Sink(-1)
			}
			errs := s.Sink(-1)
			status := sortcmd.Run(s, strings.Fields(x.words), in, out, errs)
			missing := x.in && in == nil || x.out && out == nil
			want(t, x.words+": refused", string(errs.Taken()) == "sort: error 1\n", missing)
			want(t, x.words+": status", status == 2, missing)
		}
	}
}

// P13.3: streams that do not do what is asked of them.
func TestWrongStreams(t *testing.T) {
	w := world{files: files{"a": "b\na\n"}}
	s := w.system(t, api.FsConfig{})
	shut := s.Sink(-1)
	shut.Close()
	for _, x := range []struct {
		in, out *simfs.File
		errs    string
	}{
		{s.Sink(-1), s.Sink(-1), "error 17: -"}, {s.Input(nil), s.Input(nil), "error 17"}, {s.Input(nil), shut, "error 16"}, {shut, s.Sink(-1), "error 16: -"}, {s.Input(nil), s.Sink(3), "no space left"}, {&simfs.File{}, s.Sink(-1), "error 1: -"}, {s.Input(nil), &simfs.File{}, "error 1"},
	} {
		errs := s.Sink(-1)
		want(t, x.errs, sortcmd.Run(s, []string{"a", "-"}, x.in, x.out, errs), 2)
		want(t, "diagnostics", string(errs.Taken()), "sort: "+x.errs+"\n")
		w.unchanged(t, x.errs, s)
	}
}

// R1, P13.5: no call panics, whatever is handed in; each ends with one of the statuses.
func TestNoPanic(t *testing.T) {
	w := world{files: files{"a": "b\na\n"}}
	systems := []*simfs.FS{nil, {}, w.system(t, api.FsConfig{}), w.system(t, api.FsConfig{Power: 1}), w.system(t, api.FsConfig{Interrupt: 1})}
	argvs := [][]string{nil, {}, {""}, {"", ""}, {"a"}, {"-"}, {"--"}, {"-o"}, {"-o", ""}, {"-o", "", "a"}, {"-c", ""}, {"-T", "\x00"}, {"-k", ""}, {"-t", ""}, {"--checkpoint", "\x00", "-o", "x", "a"}, slices.Repeat([]string{"-k1"}, 99), {"-cC"}, {"-C", "a"}, {"-m", "a", "-", "-", "a"}}
	for _, s := range systems {
		for _, argv := range argvs {
			for i := range 216 {
				streams := []*simfs.File{nil, {}, s.Input([]byte("x\ny")), s.Input(nil), s.Sink(0), s.Sink(-1)}
				before := slices.Clone(argv)
				status := sortcmd.Run(s, argv, streams[i%6], streams[i/6%6], streams[i/36])
				want(t, fmt.Sprintf("%q: a status", argv), slices.Contains([]int{0, 1, 2, 130}, status), true)
				want(t, "words are as they were", reflect.DeepEqual(argv, before), true)
			}
		}
	}
}

// R4: the words are not changed, nor their spare room.
func TestWordsStay(t *testing.T) {
	spare := []string{"-o", "out", "--lines=1", "a", "b", "spare", "room"}
	w := world{files: files{"a": "b\na\n", "b": "c\n"}, argv: spare[:5]}
	for _, plan := range []api.FsConfig{{}, fault(api.OpWrite, 1), {Interrupt: 3}, {Power: 4}} {
		w.run(t, plan)
		want(t, "the words and what is behind them", strings.Join(spare, " "), "-o out --lines=1 a b spare room")
	}
}
