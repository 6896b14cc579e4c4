package sortcmd_test

import (
	"fmt"
	"slices"
	"strings"
	"testing"

	"mill/api"
	"mill/simfs"
	"mill/sortcmd"
)

// want compares two values, and tells what they are of.
func want[T comparable](t *testing.T, what string, got, wanted T) {
	t.Helper()
	if got != wanted {
		t.Errorf("%s: %#v, want %#v", what, got, wanted)
	}
}

// files are names with their bytes.
type files map[string]string

// String writes files down.
func (f files) String() string {
	var l []string
	for name, data := range f {
		l = append(l, fmt.Sprintf("%q=%q", name, data))
	}
	slices.Sort(l)
	return strings.Join(l, " ")
}

// with gives the files with one more, or another.
func (f files) with(name, data string) files {
	g := files{name: data}
	for n, d := range f {
		if n != name {
			g[n] = d
		}
	}
	return g
}

// held gives the files of a system.
func held(s *simfs.FS) files {
	f := files{}
	for _, name := range s.Names() {
		data, _ := s.Look(name)
		f[name] = string(data)
	}
	return f
}

// each writes words down as lines.
func each(words string) string {
	return strings.Join(append(strings.Fields(words), ""), "\n")
}

// world is a call of the command: what lies on the system, the words, and what comes in.
type world struct {
	files files
	argv  []string
	stdin string
	room  api.FsConfig // of the system; if it has no Files: wide
}

// words gives the world with these words, split at blanks.
func (w world) words(s string) world {
	w.argv = strings.Fields(s)
	return w
}

// system makes the world's system, with a plan.
func (w world) system(t *testing.T, plan api.FsConfig) *simfs.FS {
	t.Helper()
	c := w.room
	if c.Files == 0 {
		c = api.FsConfig{Capacity: api.MaxCapacity, Files: api.MaxFiles, Handles: api.MaxHandles}
	}
	s, e := simfs.New(c)
	if e != api.OK {
		t.Fatalf("New(%v): %d", c, e)
	}
	for name, data := range w.files {
		want(t, "Put "+name, s.Put(name, []byte(data)), api.OK)
	}
	want(t, "Arm", s.Arm(plan), api.OK)
	return s
}

// result is what came of a call.
type result struct {
	fs     *simfs.FS
	status int
	out    string
	errs   string
}

// on calls the command on a system.
func (w world) on(s *simfs.FS) result {
	in, out, errs := s.Input([]byte(w.stdin)), s.Sink(-1), s.Sink(-1)
	status := sortcmd.Run(s, w.argv, in, out, errs)
	return result{s, status, string(out.Taken()), string(errs.Taken())}
}

// run calls the command on a system of its own, with a plan.
func (w world) run(t *testing.T, plan api.FsConfig) result {
	t.Helper()
	return w.on(w.system(t, plan))
}

// ends tells how the command ends, without a plan: its status, what it puts out, and its diagnostics. It leaves all files as they are.
func (w world) ends(t *testing.T, status int, out, errs string) {
	t.Helper()
	r := w.run(t, api.FsConfig{})
	what := fmt.Sprintf("%q", w.argv)
	want(t, what+": status", r.status, status)
	want(t, what+": put out", r.out, out)
	want(t, what+": diagnostics", r.errs, errs)
	w.unchanged(t, what, r.fs)
}

// unchanged tells that the files on a system are the world's, and none is open.
func (w world) unchanged(t *testing.T, what string, s *simfs.FS) {
	t.Helper()
	want(t, what+": files", held(s).String(), w.files.String())
	want(t, what+": left open", s.Stats().Open, 0)
}

// fault is a plan that refuses one call.
func fault(op api.Op, nth int) api.FsConfig {
	return api.FsConfig{Faults: []api.Fault{{Op: op, Nth: nth}}}
}
