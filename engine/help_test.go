package engine_test

import (
	"fmt"
	"slices"
	"strings"
	"testing"

	"mill/api"
	"mill/engine"
	"mill/keyspec"
	"mill/simfs"
)

// want compares two values, and tells what they are of.
func want[T comparable](t *testing.T, what string, got, wanted T) {
	t.Helper()
	if got != wanted {
		t.Errorf("%s: %+v, want %+v", what, got, wanted)
	}
}

// wantList compares two lists, and tells what they are of.
func wantList(t *testing.T, what string, got, wanted []string) {
	t.Helper()
	if !slices.Equal(got, wanted) {
		t.Errorf("%s:\n got %s\nwant %s", what, strings.Join(got, ", "), strings.Join(wanted, ", "))
	}
}

// options gives the options that words say, split at blanks.
func options(t *testing.T, words string) api.Options {
	t.Helper()
	o, _, e := keyspec.Parse(strings.Fields(words))
	if e != api.OK {
		t.Fatalf("Parse(%q): %d", words, e)
	}
	return o
}

// files are names with their bytes.
type files map[string]string

// world is a call of Run: what lies on the system, the words behind sort, and what comes in.
type world struct {
	files files
	words string
	stdin string
	room  api.FsConfig // of the system; if it has no Files: wide
}

// each writes words down as lines.
func each(words string) string {
	return strings.Join(append(strings.Fields(words), ""), "\n")
}

// system makes the world's system, with a plan.
func (w world) system(t *testing.T, plan api.FsConfig) *simfs.FS {
	t.Helper()
	c := w.room
	if c.Files == 0 {
		c = api.FsConfig{Capacity: api.MaxCapacity, Files: api.MaxFiles, Handles: api.MaxHandles}
	}
	s, e := simfs.New(c)
	if e != api.OK {
		t.Fatalf("New(%v): %d", c, e)
	}
	for name, data := range w.files {
		want(t, "Put "+name, s.Put(name, []byte(data)), api.OK)
	}
	want(t, "Arm", s.Arm(plan), api.OK)
	return s
}

// result is what came of a call.
type result struct {
	fs    *simfs.FS
	stats api.JobStats
	e     api.Errno
	out   string
}

// on runs the world's job on a system.
func (w world) on(t *testing.T, s *simfs.FS) result {
	t.Helper()
	return w.onto(t, s, s.Input([]byte(w.stdin)), s.Sink(-1))
}

// onto runs the world's job on a system with these streams.
func (w world) onto(t *testing.T, s *simfs.FS, in, out *simfs.File) result {
	t.Helper()
	stats, e := engine.Run(s, options(t, w.words), in, out)
	return result{s, stats, e, string(out.Taken())}
}

// run runs the world's job on a system of its own, with a plan.
func (w world) run(t *testing.T, plan api.FsConfig) result {
	t.Helper()
	return w.on(t, w.system(t, plan))
}

// ok runs the world's job, which must be done.
func (w world) ok(t *testing.T) result {
	t.Helper()
	r := w.run(t, api.FsConfig{})
	want(t, w.words, r.e, api.OK)
	want(t, w.words+": left open", r.fs.Stats().Open, 0)
	return r
}

// fails runs the world's job under a plan: it must end with this error about this input, with nothing put out and no file changed.
func (w world) fails(t *testing.T, plan api.FsConfig, e api.Errno, about string) {
	t.Helper()
	r := w.run(t, plan)
	what := fmt.Sprintf("%s, %v", w.words, plan)
	want(t, what, r.e, e)
	want(t, what+": stats", r.stats, api.JobStats{File: about})
	w.unchanged(t, what, r.fs)
}

// unchanged tells that the files on a system are the world's, and none is open.
func (w world) unchanged(t *testing.T, what string, s *simfs.FS) {
	t.Helper()
	want(t, what+": files", held(s), w.files.String())
	want(t, what+": left open", s.Stats().Open, 0)
}

// String writes files down.
func (f files) String() string {
	var l []string
	for name, data := range f {
		l = append(l, fmt.Sprintf("%s=%q", name, data))
	}
	slices.Sort(l)
	return strings.Join(l, " ")
}

// with gives the files with one more, or another.
func (f files) with(name, data string) files {
	g := files{name: data}
	for n, d := range f {
		if n != name {
			g[n] = d
		}
	}
	return g
}

// held writes the files of a system down.
func held(s *simfs.FS) string {
	f := files{}
	for _, name := range s.Names() {
		data, _ := s.Look(name)
		f[name] = string(data)
	}
	return f.String()
}

// fault is a plan that refuses one call.
func fault(op api.Op, nth int) api.FsConfig {
	return api.FsConfig{Faults: []api.Fault{{Op: op, Nth: nth}}}
}

// state is how a system is ahead of a call.
type state struct {
	by     [api.Ops]int // this call is counted
	data   files
	synced map[string]int
	open   map[string]bool
	out    string
}

// stateOf looks at a system that is not needed any more.
func stateOf(r result) state {
	x := state{by: r.fs.Stats().By, data: files{}, synced: map[string]int{}, open: map[string]bool{}, out: r.out}
	for _, name := range r.fs.Names() {
		data, _ := r.fs.Look(name)
		x.data[name] = string(data)
		x.synced[name], _ = r.fs.Synced(name)
		// What is open can't be put.
		x.open[name] = r.fs.Put(name, data) == api.ErrBusy
	}
	return x
}

// states are those of a system ahead of each call of the world's job, and behind the last one: the power is cut at each.
func (w world) states(t *testing.T) []state {
	t.Helper()
	var l []state
	for cut := 1; ; cut++ {
		r := w.run(t, api.FsConfig{Power: cut})
		dark := r.fs.Stats().Dark
		l = append(l, stateOf(r))
		if !dark {
			return l
		}
	}
}

// kinds are the names of the kinds of calls.
var kinds = [api.Ops]string{"open", "read", "write", "sync", "close", "remove", "rename", "stat", "list"}

// trace tells the calls of the world's job: each one's kind, and the file on which it was seen to do something.
func (w world) trace(t *testing.T) []string {
	t.Helper()
	states := w.states(t)
	var l []string
	var before [api.Ops]int
	for i, x := range states[:len(states)-1] {
		op := kindOf(x.by, before)
		before[op]++
		l = append(l, kinds[op]+change(x, states[i+1]))
	}
	return l
}

// kindOf tells the kind of the call at which the power was cut. Behind it there may be Closes and Removes: those of Begin and Resume.
func kindOf(by, before [api.Ops]int) api.Op {
	var l []api.Op
	for op := range api.Op(api.Ops) {
		if by[op] != before[op] {
			l = append(l, op)
		}
	}
	last := func(op api.Op) bool { return op == api.OpClose || op == api.OpRemove }
	if i := slices.IndexFunc(l, func(op api.Op) bool { return !last(op) }); i >= 0 {
		return l[i]
	}
	return l[0]
}

// change tells what has changed from one state to the next: what is gone, and what is another.
func change(a, b state) string {
	s := ""
	for name := range a.data {
		if _, is := b.data[name]; !is {
			s += " " + name
		}
	}
	for name := range b.data {
		_, was := a.data[name]
		switch {
		case !was && b.open[name]:
			s += " new " + name
		case s != "":
			if a.data[name] != b.data[name] || !was {
				s += " to " + name
			}
		case a.data[name] != b.data[name], a.synced[name] != b.synced[name], a.open[name] != b.open[name]:
			s += " " + name
		}
	}
	if a.out != b.out {
		s += " out"
	}
	return s
}

// whole are all files that were seen on a system, each as it was when it had the most bytes.
func whole(l []state) files {
	f := files{}
	for _, x := range l {
		for name, data := range x.data {
			if old, ok := f[name]; !ok || len(data) > len(old) {
				f[name] = data
			}
		}
	}
	return f
}
