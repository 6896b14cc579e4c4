package lineio_test

import (
	"strings"
	"testing"

	"mill/api"
	"mill/lineio"
	"mill/simfs"
)

// want compares two values, and tells what they are of.
func want[T comparable](t *testing.T, what string, got, wanted T) {
	t.Helper()
	if got != wanted {
		t.Errorf("%s: %v, want %v", what, got, wanted)
	}
}

// system makes a system that is wide enough, with a plan.
func system(t *testing.T, c api.FsConfig) *simfs.FS {
	t.Helper()
	c.Capacity, c.Files, c.Handles = api.MaxCapacity, 4, 4
	s, e := simfs.New(c)
	if s == nil || e != api.OK {
		t.Fatalf("New(%v): %d", c, e)
	}
	return s
}

// open opens a file and sets the counts of calls back to 0; c is the plan from there on.
func open(t *testing.T, s *simfs.FS, name string, mode api.Mode, c api.FsConfig) *simfs.File {
	t.Helper()
	f, e := s.Open(name, mode)
	if f == nil || e != api.OK {
		t.Fatalf("Open(%q, %d): %d", name, mode, e)
	}
	want(t, "Arm", s.Arm(c), api.OK)
	return f
}

// reader makes a Reader of a file with these bytes.
func reader(t *testing.T, data string, size int, sep byte, c api.FsConfig) (*simfs.FS, *lineio.Reader) {
	t.Helper()
	s := system(t, api.FsConfig{})
	want(t, "Put", s.Put("in", []byte(data)), api.OK)
	r, e := lineio.NewReader(open(t, s, "in", api.ModeRead, c), size, sep)
	if r == nil || e != api.OK {
		t.Fatalf("NewReader(%d, %d): %d", size, sep, e)
	}
	return s, r
}

// writer makes a Writer of a new file, out.
func writer(t *testing.T, size int, sep byte, c api.FsConfig) (*simfs.FS, *lineio.Writer) {
	t.Helper()
	s := system(t, api.FsConfig{})
	w, e := lineio.NewWriter(open(t, s, "out", api.ModeNew, c), size, sep)
	if w == nil || e != api.OK {
		t.Fatalf("NewWriter(%d, %d): %d", size, sep, e)
	}
	return s, w
}

// line asks for the next line, which must be there, with so many calls of the file system made so far.
func line(t *testing.T, s *simfs.FS, r *lineio.Reader, wanted string, calls int) {
	t.Helper()
	got, ok, e := r.Next()
	if got != wanted || !ok || e != api.OK {
		t.Errorf("Next: %s, %v, %d, want %s", brief(got), ok, e, brief(wanted))
	}
	reads(t, s, calls)
}

// noLine asks for the next line, which must not be there.
func noLine(t *testing.T, s *simfs.FS, r *lineio.Reader, wanted api.Errno, calls int) {
	t.Helper()
	got, ok, e := r.Next()
	if got != "" || ok || e != wanted {
		t.Errorf("Next: %s, %v, %d, want %d", brief(got), ok, e, wanted)
	}
	want(t, "Err", r.Err(), wanted)
	reads(t, s, calls)
}

// reads tells that so many calls were made, and all of them Reads.
func reads(t *testing.T, s *simfs.FS, calls int) {
	t.Helper()
	want(t, "Reads", s.Stats().By[api.OpRead], calls)
	want(t, "calls", s.Stats().Calls, calls)
}

// wrote tells what stands in the file out, and that so many calls were made, all of them Writes.
func wrote(t *testing.T, s *simfs.FS, data string, calls int) {
	t.Helper()
	got, _ := s.Look("out")
	if string(got) != data {
		t.Errorf("out: %s, want %s", brief(string(got)), brief(data))
	}
	want(t, "Writes", s.Stats().By[api.OpWrite], calls)
	want(t, "calls", s.Stats().Calls, calls)
}

// stat compares what a Writer counts.
func stat(t *testing.T, w *lineio.Writer, lines, put, taken int) {
	t.Helper()
	l, p, k := w.Stat()
	want(t, "Stat", [3]int{l, p, k}, [3]int{lines, put, taken})
}

// brief shows a text, and of a long one its ends.
func brief(s string) string {
	if len(s) > 100 {
		s = s[:40] + " .. " + s[len(s)-40:]
	}
	return strings.NewReplacer("\n", "\\n", "\x00", "\\0").Replace("'" + s + "'")
}

func xs(n int) string { return strings.Repeat("x", n) }

// equal compares lists of lines.
func equal(t *testing.T, what string, got, wanted []string) {
	t.Helper()
	if len(got) != len(wanted) {
		t.Errorf("%s: %d lines, want %d", what, len(got), len(wanted))
		return
	}
	for i := range got {
		if got[i] != wanted[i] {
			t.Errorf("%s: line %d: %s, want %s", what, i, brief(got[i]), brief(wanted[i]))
		}
	}
}

// texts are all strings of at most most bytes of an alphabet, the empty one first.
func texts(alphabet string, most int) []string {
	l := []string{""}
	for from := 0; most > 0; most-- {
		to := len(l)
		for _, s := range l[from:to] {
			for i := range alphabet {
				l = append(l, s+alphabet[i:i+1])
			}
		}
		from = to
	}
	return l
}
