package simfs_test

import (
	"testing"

	"mill/api"
)

// Example 1 of the chapter.
func TestExample1(t *testing.T) {
	s := small(t, api.FsConfig{})
	f := open(t, s, "a", api.ModeNew)
	write(t, f, "hello, world", 10, api.ErrSpace)
	want(t, "Close", f.Close(), api.OK)
	want(t, "files", files(s), "a=hello, wor/0")
	want(t, "Reboot", s.Reboot(4), api.OK)
	want(t, "files", files(s), "a=hell/4")
}

// Example 2.
func TestExample2(t *testing.T) {
	s := small(t, api.FsConfig{})
	put(t, s, "a", "12345")
	f := open(t, s, "a", api.ModeRead)
	open(t, s, "a", api.ModeRead)
	noOpen(t, s, "a", api.ModeRead, api.ErrHandles)
	noOpen(t, s, "a", api.ModeTrunc, api.ErrBusy)
	noOpen(t, s, "b", api.ModeNew, api.ErrHandles)
	want(t, "Close", f.Close(), api.OK)
	open(t, s, "b", api.ModeNew)
	noOpen(t, s, "c", api.ModeNew, api.ErrFull)
}

// Example 3.
func TestExample3(t *testing.T) {
	s := small(t, api.FsConfig{Short: []int{2, 3}})
	put(t, s, "a", "abcdefgh")
	f := open(t, s, "a", api.ModeRead)
	for _, b := range []string{"ab", "cde", "fg", "h", ""} {
		read(t, f, 4, b)
	}
}

// Example 4.
func TestExample4(t *testing.T) {
	s := small(t, api.FsConfig{Faults: []api.Fault{{Op: api.OpWrite, Nth: 2}}})
	f := open(t, s, "a", api.ModeNew)
	write(t, f, "ab", 2, api.OK)
	write(t, f, "cd", 0, api.ErrIO)
	write(t, f, "ef", 2, api.OK)
	want(t, "files", files(s), "a=abef/0")
}

// Example 5.
func TestExample5(t *testing.T) {
	s := small(t, api.FsConfig{Faults: []api.Fault{{Op: api.OpClose, Nth: 1}}})
	f := open(t, s, "a", api.ModeNew)
	want(t, "Close", f.Close(), api.ErrIO)
	want(t, "Close", f.Close(), api.ErrClosed)
	want(t, "open", s.Stats().Open, 0)
}

// Example 6.
func TestExample6(t *testing.T) {
	s := small(t, api.FsConfig{Interrupt: 3, Power: 5})
	f := open(t, s, "a", api.ModeNew)
	write(t, f, "a", 1, api.OK)
	want(t, "stopped", s.Stopped(), false)
	write(t, f, "b", 1, api.OK)
	want(t, "stopped", s.Stopped(), true)
	write(t, f, "c", 1, api.OK)
	write(t, f, "d", 0, api.ErrPower)
	write(t, f, "e", 0, api.ErrPower)
	want(t, "Reboot", s.Reboot(9), api.OK)
	want(t, "files", files(s), "a=abc/3")
	_, e := s.Stat("a")
	want(t, "Stat", e, api.OK)
}

// Example 7.
func TestExample7(t *testing.T) {
	s := small(t, api.FsConfig{})
	want(t, "missing", s.Rename("a", "a"), api.ErrMissing)
	put(t, s, "a", "1")
	want(t, "itself", s.Rename("a", "a"), api.OK)
	put(t, s, "b", "2")
	open(t, s, "b", api.ModeRead)
	want(t, "open", s.Rename("a", "b"), api.ErrBusy)
	want(t, "files", files(s), "a=1/1 b=2/1")
}

// Example 8.
func TestExample8(t *testing.T) {
	s := small(t, api.FsConfig{})
	k := s.Sink(3)
	write(t, k, "ab", 2, api.OK)
	write(t, k, "cd", 1, api.ErrSpace)
	want(t, "taken", string(k.Taken()), "abc")
	want(t, "written", s.Stats().Written, 0)
	want(t, "used", s.Stats().Used, 0)
}
