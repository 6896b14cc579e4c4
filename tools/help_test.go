package tools_test

import (
	"fmt"
	"maps"
	"slices"
	"strings"
	"testing"

	"mill/api"
	"mill/simfs"
	"mill/tools"
)

// want compares two values, and tells what they are of.
func want[T comparable](t *testing.T, what string, got, wanted T) {
	t.Helper()
	if got != wanted {
		t.Errorf("%s: %#v, want %#v", what, got, wanted)
	}
}

// files are names with their bytes.
type files map[string]string

// String writes files down.
func (f files) String() string {
	var b strings.Builder
	for _, name := range slices.Sorted(maps.Keys(f)) {
		b.WriteString(name + "=" + f[name] + ";")
	}
	return b.String()
}

// with gives the files with one more, or another.
func (f files) with(name, data string) files {
	g := maps.Clone(f)
	if g == nil {
		g = files{}
	}
	g[name] = data
	return g
}

// held gives the files of a system.
func held(s *simfs.FS) files {
	f := files{}
	for _, name := range s.Names() {
		data, _ := s.Look(name)
		f[name] = string(data)
	}
	return f
}

// runner is tools.Run, or a second model of it.
type runner func(fs *simfs.FS, argv []string, in, out, errs *simfs.File) (int, api.Errno)

// world is a run of a tool: what lies on the system, the words, what comes in, and how much room there is.
type world struct {
	files    files
	argv     []string
	stdin    string
	room     api.FsConfig // of the system; if it has no Files: wide
	outRoom  int          // of what goes out, and one more; 0: any
	errsRoom int
	how      runner // nil: tools.Run
}

// words gives the world with these words, split at blanks; the word ” is empty.
func (w world) words(s string) world {
	w.argv = strings.Fields(s)
	for i, word := range w.argv {
		if word == "''" {
			w.argv[i] = ""
		}
	}
	return w
}

// input gives the world with another standard input.
func (w world) input(s string) world {
	w.stdin = s
	return w
}

// system makes the world's system, with a plan.
func (w world) system(t *testing.T, plan api.FsConfig) *simfs.FS {
	t.Helper()
	c := w.room
	if c.Files == 0 {
		c = api.FsConfig{Capacity: 1 << 22, Files: 100, Handles: 50}
	}
	s, e := simfs.New(c)
	if e != api.OK {
		t.Fatalf("New(%v): %d", c, e)
	}
	for _, name := range slices.Sorted(maps.Keys(w.files)) {
		want(t, "Put "+name, s.Put(name, []byte(w.files[name])), api.OK)
	}
	want(t, "Arm", s.Arm(plan), api.OK)
	return s
}

// result is what came of a run.
type result struct {
	status int
	why    api.Errno
	out    string
	errs   string
	files  string
	stats  api.FsStats
}

// String tells a result in brief.
func (r result) String() string {
	return fmt.Sprintf("status %d, why %d, out %q, errs %q, files %s, stats %+v", r.status, r.why, short(r.out), short(r.errs), short(r.files), r.stats)
}

// on runs the tool on a system.
func (w world) on(s *simfs.FS) result {
	how := w.how
	if how == nil {
		how = tools.Run
	}
	in, out, errs := s.Input([]byte(w.stdin)), s.Sink(w.outRoom-1), s.Sink(w.errsRoom-1)
	status, why := how(s, w.argv, in, out, errs)
	return result{status, why, string(out.Taken()), string(errs.Taken()), held(s).String(), s.Stats()}
}

// run runs the tool on a system of its own, with a plan.
func (w world) run(t *testing.T, plan api.FsConfig) result {
	t.Helper()
	return w.on(w.system(t, plan))
}

// ends tells how the tool ends, without a plan: its status, what it puts out, and its diagnostics. It leaves all files as they are, and none open; and Plain says the same.
func (w world) ends(t *testing.T, status int, out, errs string) {
	t.Helper()
	r := w.run(t, api.FsConfig{})
	what := fmt.Sprintf("%q, %q, %v", w.argv, short(w.stdin), short(w.files.String()))
	want(t, what+": status", r.status, status)
	want(t, what+": why", r.why, api.OK)
	want(t, what+": put out", r.out, out)
	want(t, what+": diagnostics", r.errs, errs)
	want(t, what+": files", r.files, w.files.String())
	want(t, what+": left open", r.stats.Open, 0)
	w.plain(t, status, out, errs)
}

// plain tells what Plain says.
func (w world) plain(t *testing.T, status int, out, errs string) {
	t.Helper()
	var l []api.NamedFile
	for name, data := range w.files {
		l = append(l, api.NamedFile{Name: name, Data: []byte(data)})
	}
	what := fmt.Sprintf("Plain(%q, %q, %v)", w.argv, short(w.stdin), short(w.files.String()))
	gotOut, gotErrs, gotStatus := tools.Plain(w.argv, []byte(w.stdin), l)
	want(t, what+": status", gotStatus, status)
	want(t, what+": put out", string(gotOut), out)
	want(t, what+": diagnostics", string(gotErrs), errs)
}

// short cuts long texts that are told.
func short(s string) string { return s[:min(len(s), 300)] }

// wrong tells that the tool's words are wrong usage: one call, a message, and nothing more.
func (w world) wrong(t *testing.T) {
	t.Helper()
	name := w.argv[0]
	w.ends(t, 2, "", name+": usage\n")
	want(t, fmt.Sprintf("%q: calls", w.argv), w.trace(t), "write")
}

// trace tells which calls the tool makes: as the power goes at each of them in turn, each is one more than were made ahead of it.
func (w world) trace(t *testing.T) string { return w.traceUnder(t, api.FsConfig{}) }

// traceUnder is trace with a plan.
func (w world) traceUnder(t *testing.T, plan api.FsConfig) string {
	t.Helper()
	names := [api.Ops]string{"open", "read", "write", "sync", "close", "remove", "rename", "stat", "list"}
	calls := w.run(t, plan).stats.Calls
	var l []string
	var before [api.Ops]int
	for n := 1; n <= calls; n++ {
		plan.Power = n
		r := w.run(t, plan)
		if r.why != api.ErrPower || r.status != 0 || r.stats.Calls != n {
			t.Fatalf("%q, no power at call %d: %d, %d, %d calls", w.argv, n, r.status, r.why, r.stats.Calls)
		}
		for op := range names {
			if r.stats.By[op] > before[op] {
				l = append(l, names[op])
			}
		}
		before = r.stats.By
	}
	return strings.Join(l, " ")
}

// fault is a plan that refuses one call.
func fault(op api.Op, nth int) api.FsConfig {
	return api.FsConfig{Faults: []api.Fault{{Op: op, Nth: nth}}}
}

// lines writes words down as lines.
func lines(words string) string {
	return strings.Join(append(strings.Fields(words), ""), "\n")
}
