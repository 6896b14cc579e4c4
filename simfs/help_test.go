package simfs_test

import (
	"fmt"
	"strings"
	"testing"

	"mill/api"
	"mill/simfs"
)

// want compares two values, and tells what they are of.
func want[T comparable](t *testing.T, what string, got, wanted T) {
	t.Helper()
	if got != wanted {
		t.Errorf("%s: %v, want %v", what, got, wanted)
	}
}

// system makes a system; without sizes one that is wide enough for anything small.
func system(t *testing.T, c api.FsConfig) *simfs.FS {
	t.Helper()
	if c.Files == 0 {
		c.Capacity, c.Files, c.Handles = 1000, 20, 20
	}
	s, e := simfs.New(c)
	if s == nil || e != api.OK {
		t.Fatalf("New(%v): %v, %d", c, s, e)
	}
	return s
}

// small is the system of the chapter's examples.
func small(t *testing.T, c api.FsConfig) *simfs.FS {
	t.Helper()
	c.Capacity, c.Files, c.Handles = 10, 2, 2
	return system(t, c)
}

func put(t *testing.T, s *simfs.FS, name, data string) {
	t.Helper()
	want(t, "Put "+name, s.Put(name, []byte(data)), api.OK)
}

func open(t *testing.T, s *simfs.FS, name string, mode api.Mode) *simfs.File {
	t.Helper()
	f, e := s.Open(name, mode)
	if f == nil || e != api.OK {
		t.Fatalf("Open(%q, %d): %d", name, mode, e)
	}
	return f
}

func noOpen(t *testing.T, s *simfs.FS, name string, mode api.Mode, wanted api.Errno) {
	t.Helper()
	f, e := s.Open(name, mode)
	if f != nil || e != wanted {
		t.Errorf("Open(%q, %d): %v, %d, want %d", name, mode, f, e, wanted)
	}
}

func read(t *testing.T, f *simfs.File, most int, wanted string) {
	t.Helper()
	b, e := f.Read(most)
	if string(b) != wanted || e != api.OK {
		t.Errorf("Read(%d): %q, %d, want %q", most, b, e, wanted)
	}
}

func noRead(t *testing.T, f *simfs.File, most int, wanted api.Errno) {
	t.Helper()
	b, e := f.Read(most)
	if len(b) != 0 || e != wanted {
		t.Errorf("Read(%d): %q, %d, want %d", most, b, e, wanted)
	}
}

func write(t *testing.T, f *simfs.File, b string, n int, wanted api.Errno) {
	t.Helper()
	k, e := f.Write([]byte(b))
	if k != n || e != wanted {
		t.Errorf("Write(%q): %d, %d, want %d, %d", b, k, e, n, wanted)
	}
}

// files tells all files with their bytes and how many of them are synced, from outside.
func files(s *simfs.FS) string {
	var l []string
	for _, name := range s.Names() {
		b, ok := s.Look(name)
		n, there := s.Synced(name)
		if !ok || !there {
			return "a name without a file: " + name
		}
		l = append(l, fmt.Sprintf("%s=%s/%d", name, b, n))
	}
	return strings.Join(l, " ")
}

func isClosed(c <-chan struct{}) bool {
	select {
	case _, ok := <-c:
		return !ok
	default:
		return false
	}
}

// nine has a use of each kind of call, on a system with files a and d, closed or read, and w, which is written.
type nine struct {
	s       *simfs.FS
	r, w, c *simfs.File // one reads, one writes, one is closed
}

func newNine(t *testing.T, c api.FsConfig) *nine {
	t.Helper()
	s := system(t, api.FsConfig{})
	put(t, s, "a", "aaaa")
	put(t, s, "d", "dddd")
	n := &nine{s: s, r: open(t, s, "a", api.ModeRead), w: open(t, s, "w", api.ModeNew), c: s.Sink(9)}
	write(t, n.w, "ww", 2, api.OK)
	want(t, "Close", n.c.Close(), api.OK)
	want(t, "Arm", s.Arm(c), api.OK)
	return n
}

// good makes a call that has no error of its own; what it answered beside the error must be nothing if there is one.
func (n *nine) good(t *testing.T, op api.Op) api.Errno {
	t.Helper()
	var e api.Errno
	empty := true
	switch op {
	case api.OpOpen:
		var f *simfs.File
		f, e = n.s.Open("d", api.ModeTrunc)
		empty = f == nil
	case api.OpRead:
		var b []byte
		b, e = n.r.Read(3)
		empty = len(b) == 0
	case api.OpWrite:
		var k int
		k, e = n.w.Write([]byte("x"))
		empty = k == 0
	case api.OpSync:
		e = n.w.Sync()
	case api.OpClose:
		e = n.w.Close()
	case api.OpRemove:
		e = n.s.Remove("d")
	case api.OpRename:
		e = n.s.Rename("d", "e")
	case api.OpStat:
		var i api.FileInfo
		i, e = n.s.Stat("d")
		empty = i == api.FileInfo{}
	case api.OpList:
		var l []string
		l, e = n.s.List("")
		empty = len(l) == 0
	}
	if e != api.OK && !empty {
		t.Errorf("kind %d: error %d, and more", op, e)
	}
	return e
}

// bad makes a call with an error of its own, and tells which; List has none.
func (n *nine) bad(op api.Op) (got, own api.Errno) {
	switch op {
	case api.OpOpen:
		_, got = n.s.Open("", 9)
		return got, api.ErrArg
	case api.OpRead:
		_, got = n.r.Read(0)
		return got, api.ErrArg
	case api.OpWrite:
		_, got = n.r.Write(nil)
		return got, api.ErrMode
	case api.OpSync:
		return n.r.Sync(), api.ErrMode
	case api.OpClose:
		return n.c.Close(), api.ErrClosed
	case api.OpRemove:
		return n.s.Remove(""), api.ErrName
	case api.OpRename:
		return n.s.Rename("", "a"), api.ErrName
	case api.OpStat:
		_, got = n.s.Stat("")
		return got, api.ErrName
	}
	_, got = n.s.List("")
	return got, api.OK
}

// kinds are the nine kinds of calls.
var kinds = []api.Op{api.OpOpen, api.OpRead, api.OpWrite, api.OpSync, api.OpClose, api.OpRemove, api.OpRename, api.OpStat, api.OpList}
