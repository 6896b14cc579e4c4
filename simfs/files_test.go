package simfs_test

import (
	"fmt"
	"math"
	"slices"
	"strings"
	"testing"

	"mill/api"
	"mill/simfs"
)

var badNames = []string{"", strings.Repeat("n", api.MaxName+1), "\x00", "a\x00", "\x00a", strings.Repeat("n", api.MaxName) + "\x00"}

var modes = []api.Mode{api.ModeRead, api.ModeNew, api.ModeTrunc, api.ModeAppend}

// P1.4, P1.6, P1.7, P1.12, P1.15: names that may not be, and names that may.
func TestNames(t *testing.T) {
	s := system(t, api.FsConfig{})
	put(t, s, "there", "x")
	for _, n := range badNames {
		for _, mode := range modes {
			noOpen(t, s, n, mode, api.ErrName)
		}
		_, e := s.Stat(n)
		for i, e := range []api.Errno{e, s.Remove(n), s.Rename(n, "a"), s.Rename(n, n), s.Rename("there", n), s.Rename("missing", n), s.Put(n, nil)} {
			if e != api.ErrName {
				t.Errorf("%q, %d: %d", n, i, e)
			}
		}
		if _, ok := s.Look(n); ok {
			t.Errorf("Look(%q)", n)
		}
		if k, ok := s.Synced(n); ok || k != 0 {
			t.Errorf("Synced(%q)", n)
		}
	}
	want(t, "files", files(s), "there=x/1")
	s.Remove("there")
	good := []string{strings.Repeat("n", api.MaxName), "/", "a/b", " ", "-", ".", "..", "\n", "\xff", "\xff\xfe", "ä", "*"}
	for _, n := range good {
		f := open(t, s, n, api.ModeNew)
		want(t, "Name", f.Name(), n)
		f.Close()
		i, e := s.Stat(n)
		want(t, "Stat", i.Name, n)
		want(t, "Stat", e, api.OK)
	}
	slices.Sort(good)
	if l := s.Names(); !slices.Equal(l, good) {
		t.Errorf("%q", l)
	}
}

// P1.4: modes that are none of the four, ahead of a name that may not be.
func TestOpenMode(t *testing.T) {
	s := system(t, api.FsConfig{})
	put(t, s, "a", "x")
	for _, mode := range []api.Mode{0, 5, 128, 255} {
		noOpen(t, s, "", mode, api.ErrArg)
		noOpen(t, s, "a", mode, api.ErrArg)
		noOpen(t, s, "b", mode, api.ErrArg)
	}
}

// P1.4: for each mode and each state of the file, with room and without: what is refused, and with what.
func TestOpenRefusals(t *testing.T) {
	const missing, there, read1, written = 0, 1, 2, 3
	own := map[api.Mode][4]api.Errno{
		api.ModeRead:   {api.ErrMissing, api.OK, api.OK, api.ErrBusy},
		api.ModeNew:    {api.OK, api.ErrThere, api.ErrThere, api.ErrThere},
		api.ModeTrunc:  {api.OK, api.OK, api.ErrBusy, api.ErrBusy},
		api.ModeAppend: {api.OK, api.OK, api.ErrBusy, api.ErrBusy},
	}
	for _, mode := range modes {
		for state := missing; state <= written; state++ {
			for room := range 4 {
				full, handled := room&1 > 0, room&2 > 0
				s := system(t, api.FsConfig{Capacity: 100, Files: 3, Handles: 3})
				put(t, s, "other", "")
				open(t, s, "other", api.ModeRead)
				if state != missing {
					put(t, s, "a", "abc")
				}
				if state == read1 {
					open(t, s, "a", api.ModeRead)
				}
				if state == written {
					open(t, s, "a", api.ModeAppend)
				}
				if full {
					for i := 0; len(s.Names()) < 3; i++ {
						put(t, s, fmt.Sprint("more", i), "")
					}
				}
				for handled && s.Stats().Open < 3 {
					open(t, s, "other", api.ModeRead)
				}
				wanted := own[mode][state]
				if wanted == api.OK && state == missing && full {
					wanted = api.ErrFull
				} else if wanted == api.OK && handled {
					wanted = api.ErrHandles
				}
				before, held := files(s), s.Stats()
				f, e := s.Open("a", mode)
				if e != wanted || (f != nil) != (e == api.OK) {
					t.Errorf("mode %d, state %d, room %d: %d, want %d", mode, state, room, e, wanted)
				}
				if e != api.OK {
					held.Calls++
					held.By[api.OpOpen]++
					want(t, "a refused Open: files", files(s), before)
					want(t, "a refused Open: stats", s.Stats(), held)
				}
			}
		}
	}
}

// P1.4: what each mode makes of a file that is there and of one that is not.
func TestOpenEffects(t *testing.T) {
	for _, mode := range modes[1:] {
		s := system(t, api.FsConfig{})
		f := open(t, s, "a", mode)
		want(t, "made", files(s), "a=/0")
		want(t, "made", s.Stats().Made, 1)
		write(t, f, "xy", 2, api.OK)
		noRead(t, f, 1, api.ErrMode)
		want(t, "written", files(s), "a=xy/0")
	}
	s := system(t, api.FsConfig{})
	put(t, s, "a", "abc")
	r, q := open(t, s, "a", api.ModeRead), open(t, s, "a", api.ModeRead)
	read(t, r, 2, "ab")
	read(t, q, 9, "abc")
	read(t, r, 2, "c")
	r.Close()
	read(t, q, 9, "")
	q.Close()
	f := open(t, s, "a", api.ModeAppend)
	want(t, "as it is", files(s), "a=abc/3")
	write(t, f, "de", 2, api.OK)
	want(t, "behind its end", files(s), "a=abcde/3")
	f.Close()
	f = open(t, s, "a", api.ModeTrunc)
	want(t, "emptied at once", files(s), "a=/0")
	want(t, "used", s.Stats().Used, 0)
	want(t, "most", s.Stats().Most, 5)
	write(t, f, "z", 1, api.OK)
	want(t, "made", s.Stats().Made, 0)
	s.Reboot(0)
	want(t, "nothing of it was synced", files(s), "a=/0")
}

// P1.4: at the limits of the package.
func TestOpenLimits(t *testing.T) {
	s := system(t, api.FsConfig{Capacity: api.MaxCapacity, Files: api.MaxFiles, Handles: api.MaxHandles})
	for i := range api.MaxFiles {
		f := open(t, s, fmt.Sprint(i), api.ModeNew)
		if i >= api.MaxHandles-1 {
			f.Close()
		}
	}
	noOpen(t, s, "more", api.ModeNew, api.ErrFull)
	open(t, s, "1000", api.ModeRead)
	noOpen(t, s, "1000", api.ModeRead, api.ErrHandles)
	st := s.Stats()
	want(t, "made", st.Made, api.MaxFiles)
	want(t, "open", st.Open, api.MaxHandles)
	want(t, "peak", st.Peak, api.MaxHandles)
	f := s.Sink(-1)
	want(t, "Close", f.Close(), api.OK)
	want(t, "a stream is not counted", s.Stats().Open, api.MaxHandles)
	want(t, "Put of all", s.Put("1001", make([]byte, api.MaxCapacity)), api.OK)
	want(t, "Put of one more", s.Put("1002", []byte("x")), api.ErrSpace)
}

// P1.5: streams: what they give and take; they have no place among files, handles and bytes.
func TestStreams(t *testing.T) {
	s := system(t, api.FsConfig{Capacity: 0, Files: 1, Handles: 1})
	data := append(make([]byte, 0, 8), "abc"...)
	in := s.Input(data)
	data[0] = 'x'
	read(t, in, 2, "ab")
	read(t, in, 2, "c")
	read(t, in, 2, "")
	read(t, in, 2, "")
	want(t, "spare room", string(data[:8]), "xbc\x00\x00\x00\x00\x00")
	write(t, in, "", 0, api.ErrMode)
	want(t, "Sync of an Input", in.Sync(), api.ErrMode)
	read(t, s.Input(nil), 1, "")
	for _, c := range []struct{ room, first, second int }{{0, 0, 0}, {1, 1, 0}, {4, 4, 0}, {5, 4, 1}, {7, 4, 3}, {8, 4, 4}, {9, 4, 4}, {math.MaxInt, 4, 4}, {-1, 4, 4}, {math.MinInt, 4, 4}} {
		k := s.Sink(c.room)
		err := func(n int) api.Errno {
			if n < 4 {
				return api.ErrSpace
			}
			return api.OK
		}
		write(t, k, "abcd", c.first, err(c.first))
		write(t, k, "efgh", c.second, err(c.second))
		write(t, k, "", 0, api.OK)
		noRead(t, k, 1, api.ErrMode)
		want(t, "Sync", k.Sync(), api.OK)
		want(t, "taken", string(k.Taken()), "abcd"[:c.first]+"efgh"[:c.second])
	}
	st := s.Stats()
	if st.Written+st.Used+st.Most+st.Open+st.Peak+st.Made != 0 || len(s.Names()) != 0 {
		t.Errorf("streams are counted: %v", st)
	}
}

// P1.5: streams can be had in the dark; two of the same bytes go on by themselves.
func TestStreamsAlone(t *testing.T) {
	s := system(t, api.FsConfig{})
	a, b := s.Input([]byte("abc")), s.Input([]byte("abc"))
	read(t, a, 2, "ab")
	read(t, b, 9, "abc")
	read(t, a, 2, "c")
	s.Cut()
	in, k := s.Input([]byte("x")), s.Sink(1)
	if in == nil || k == nil {
		t.Fatal("no streams in the dark")
	}
	noRead(t, in, 1, api.ErrPower)
	write(t, k, "x", 0, api.ErrPower)
}

// P1.6: Remove.
func TestRemove(t *testing.T) {
	s := system(t, api.FsConfig{Capacity: 5, Files: 1, Handles: 5})
	want(t, "missing", s.Remove("a"), api.ErrMissing)
	put(t, s, "a", "abcde")
	f := open(t, s, "a", api.ModeRead)
	g := open(t, s, "a", api.ModeRead)
	want(t, "busy", s.Remove("a"), api.ErrBusy)
	f.Close()
	want(t, "busy still", s.Remove("a"), api.ErrBusy)
	g.Close()
	f = open(t, s, "a", api.ModeAppend)
	want(t, "busy, written", s.Remove("a"), api.ErrBusy)
	f.Close()
	want(t, "as it was", files(s), "a=abcde/5")
	want(t, "Remove", s.Remove("a"), api.OK)
	want(t, "gone", files(s), "")
	want(t, "used", s.Stats().Used, 0)
	want(t, "gone already", s.Remove("a"), api.ErrMissing)
	f = open(t, s, "b", api.ModeNew)
	write(t, f, "fghij", 5, api.OK)
	s.Reboot(9)
	want(t, "gone for good", files(s), "b=fghij/5")
}

// P1.7: Rename, with how many bytes are synced, and the room that it makes.
func TestRename(t *testing.T) {
	s := system(t, api.FsConfig{Capacity: 10, Files: 2, Handles: 5})
	f := open(t, s, "a", api.ModeNew)
	write(t, f, "ab", 2, api.OK)
	f.Sync()
	write(t, f, "cd", 2, api.OK)
	put(t, s, "b", "012345")
	for i, e := range []api.Errno{s.Rename("a", "b"), s.Rename("b", "a"), s.Rename("a", "c"), s.Rename("a", "a")} {
		if e != api.ErrBusy {
			t.Errorf("%d: %d", i, e)
		}
	}
	want(t, "missing, to a busy one", s.Rename("c", "a"), api.ErrMissing)
	want(t, "missing, to itself", s.Rename("c", "c"), api.ErrMissing)
	f.Close()
	want(t, "as it was", files(s), "a=abcd/2 b=012345/6")
	want(t, "to itself", s.Rename("a", "a"), api.OK)
	want(t, "as it was", files(s), "a=abcd/2 b=012345/6")
	want(t, "used", s.Stats().Used, 10)
	want(t, "in the place of b", s.Rename("a", "b"), api.OK)
	want(t, "files", files(s), "b=abcd/2")
	want(t, "used", s.Stats().Used, 4)
	want(t, "to a new name", s.Rename("b", "c"), api.OK)
	want(t, "files", files(s), "c=abcd/2")
	want(t, "Name of the File", f.Name(), "a")
	s.Reboot(0)
	want(t, "for good", files(s), "c=ab/2")
	r := open(t, s, "c", api.ModeRead)
	want(t, "busy, read", s.Rename("c", "d"), api.ErrBusy)
	read(t, r, 9, "ab")
	want(t, "made", s.Stats().Made, 0)
}

// P1.7: Rename needs no place for a further file or byte.
func TestRenameFull(t *testing.T) {
	s := system(t, api.FsConfig{Capacity: 3, Files: 1, Handles: 1})
	put(t, s, "a", "abc")
	want(t, "Rename", s.Rename("a", "b"), api.OK)
	want(t, "files", files(s), "b=abc/3")
	want(t, "most", s.Stats().Most, 3)
}

// P1.8: the errors of Read in their order, and that none of them moves it on.
func TestReadRefusals(t *testing.T) {
	s := system(t, api.FsConfig{})
	put(t, s, "a", "abc")
	r, w, k := open(t, s, "a", api.ModeRead), open(t, s, "w", api.ModeNew), s.Sink(-1)
	for _, most := range []int{0, -1, math.MinInt} {
		noRead(t, r, most, api.ErrArg)
		noRead(t, w, most, api.ErrMode)
		noRead(t, k, most, api.ErrMode)
	}
	noRead(t, w, 1, api.ErrMode)
	read(t, r, math.MaxInt, "abc")
	read(t, r, 1, "")
	noRead(t, r, 0, api.ErrArg)
	for _, f := range []*simfs.File{r, w, k} {
		f.Close()
		noRead(t, f, 0, api.ErrClosed)
		noRead(t, f, 1, api.ErrClosed)
	}
}

// P1.8: short reads go by the number among all Reads, whatever they answer and whose they are.
func TestShortCounts(t *testing.T) {
	s := system(t, api.FsConfig{Short: []int{1, 2, 3, 4, 100}, Faults: []api.Fault{{Op: api.OpRead, Nth: 2}}})
	put(t, s, "a", "abcdefghijklmnopqrstuvwxyz")
	f, in, k := open(t, s, "a", api.ModeRead), s.Input([]byte("0123456789")), s.Sink(-1)
	s.Stat("a")
	read(t, f, 9, "a")
	noRead(t, f, 9, api.ErrIO)
	read(t, f, 9, "bcd")
	read(t, in, 9, "0123")
	read(t, f, 9, "efghijklm")
	noRead(t, k, 9, api.ErrMode)
	read(t, f, 9, "no")
	noRead(t, f, 0, api.ErrArg)
	k.Close()
	noRead(t, k, 1, api.ErrClosed)
	read(t, f, 20, "pqrstuvwxyz")
	read(t, in, 9, "4")
	read(t, in, 1, "5")
	read(t, f, 9, "")
	read(t, in, 9, "6789")
}

// P1.9: the errors of Write in their order.
func TestWriteRefusals(t *testing.T) {
	s := small(t, api.FsConfig{})
	put(t, s, "a", "0123456789")
	r, in := open(t, s, "a", api.ModeRead), s.Input(nil)
	write(t, r, "x", 0, api.ErrMode)
	write(t, in, "x", 0, api.ErrMode)
	r.Close()
	in.Close()
	write(t, r, "x", 0, api.ErrClosed)
	write(t, in, "", 0, api.ErrClosed)
	w := open(t, s, "a", api.ModeAppend)
	write(t, w, "", 0, api.OK)
	write(t, w, "x", 0, api.ErrSpace)
	w.Close()
	write(t, w, "x", 0, api.ErrClosed)
	want(t, "files", files(s), "a=0123456789/10")
}

// P1.9: the room is that of all files together.
func TestWriteRoom(t *testing.T) {
	s := system(t, api.FsConfig{Capacity: 10, Files: 5, Handles: 5})
	put(t, s, "a", "abc")
	b, c := open(t, s, "b", api.ModeNew), open(t, s, "c", api.ModeNew)
	write(t, b, "1234", 4, api.OK)
	write(t, c, "5678", 3, api.ErrSpace)
	write(t, b, "9", 0, api.ErrSpace)
	want(t, "full", s.Stats(), api.FsStats{Calls: 5, By: [api.Ops]int{2, 0, 3}, Made: 2, Written: 7, Open: 2, Peak: 2, Used: 10, Most: 10})
	s.Remove("a")
	write(t, b, "9", 1, api.OK)
	write(t, c, "", 0, api.OK)
	write(t, c, "89", 2, api.OK)
	write(t, c, "0", 0, api.ErrSpace)
	want(t, "files", files(s), "b=12349/0 c=56789/0")
}

// P1.9: bytes of all values go in and out.
func TestWriteBytes(t *testing.T) {
	s := system(t, api.FsConfig{})
	all := make([]byte, 256)
	for i := range all {
		all[i] = byte(i)
	}
	f := open(t, s, "a", api.ModeNew)
	write(t, f, string(all), 256, api.OK)
	f.Close()
	read(t, open(t, s, "a", api.ModeRead), 1000, string(all))
}

// P1.10: Sync: its errors, and what it makes safe.
func TestSync(t *testing.T) {
	s := system(t, api.FsConfig{})
	f := open(t, s, "a", api.ModeNew)
	want(t, "of nothing", f.Sync(), api.OK)
	write(t, f, "ab", 2, api.OK)
	want(t, "not synced", files(s), "a=ab/0")
	want(t, "Sync", f.Sync(), api.OK)
	want(t, "synced", files(s), "a=ab/2")
	write(t, f, "c", 1, api.OK)
	want(t, "not synced", files(s), "a=abc/2")
	want(t, "Close", f.Close(), api.OK)
	want(t, "Close syncs nothing", files(s), "a=abc/2")
	want(t, "closed", f.Sync(), api.ErrClosed)
	r := open(t, s, "a", api.ModeRead)
	want(t, "read", r.Sync(), api.ErrMode)
	r.Close()
	want(t, "closed, read", r.Sync(), api.ErrClosed)
	want(t, "nothing", files(s), "a=abc/2")
	f = open(t, s, "a", api.ModeAppend)
	want(t, "all its bytes", f.Sync(), api.OK)
	want(t, "all its bytes", files(s), "a=abc/3")
	f.Close()
	open(t, s, "a", api.ModeTrunc).Sync()
	want(t, "emptied", files(s), "a=/0")
}

// P1.11: Close of all kinds of Files, and what is refused behind it.
func TestClose(t *testing.T) {
	s := system(t, api.FsConfig{})
	put(t, s, "a", "x")
	in, k := s.Input([]byte("x")), s.Sink(9)
	for i, f := range []*simfs.File{open(t, s, "a", api.ModeRead), open(t, s, "a", api.ModeRead), open(t, s, "b", api.ModeNew), in, k} {
		before := s.Stats().Open
		want(t, "Close", f.Close(), api.OK)
		if fewer := before - s.Stats().Open; fewer != map[bool]int{true: 1, false: 0}[i < 3] {
			t.Errorf("File %d: %d fewer are open", i, fewer)
		}
		for range 2 {
			noRead(t, f, 1, api.ErrClosed)
			write(t, f, "x", 0, api.ErrClosed)
			want(t, "Sync", f.Sync(), api.ErrClosed)
			want(t, "Close", f.Close(), api.ErrClosed)
		}
	}
	want(t, "open", s.Stats().Open, 0)
	want(t, "peak", s.Stats().Peak, 3)
	want(t, "a is free", s.Remove("a"), api.OK)
	want(t, "b is free", s.Rename("b", "a"), api.OK)
}

// P1.12: Stat and List.
func TestStatAndList(t *testing.T) {
	s := system(t, api.FsConfig{})
	l, e := s.List("")
	want(t, "List of nothing", len(l), 0)
	want(t, "List of nothing", e, api.OK)
	i, e := s.Stat("a")
	want(t, "missing", i, api.FileInfo{})
	want(t, "missing", e, api.ErrMissing)
	put(t, s, "a", "abc")
	f := open(t, s, "a", api.ModeAppend)
	write(t, f, "d", 1, api.OK)
	i, e = s.Stat("a")
	want(t, "written", i, api.FileInfo{Name: "a", Size: 4, Synced: 3, Open: 1})
	want(t, "written", e, api.OK)
	f.Close()
	open(t, s, "a", api.ModeRead)
	open(t, s, "a", api.ModeRead)
	i, _ = s.Stat("a")
	want(t, "read twice", i, api.FileInfo{Name: "a", Size: 4, Synced: 3, Open: 2})
	for _, n := range []string{"ab", "abc", "b", "A", "\xff", "a/", "aä", "\xffz"} {
		put(t, s, n, "")
	}
	before := s.Stats()
	for prefix, wanted := range map[string]string{
		"":                      "A,a,a/,ab,abc,aä,b,\xff,\xffz",
		"a":                     "a,a/,ab,abc,aä",
		"ab":                    "ab,abc",
		"abc":                   "abc",
		"abcd":                  "",
		"\xff":                  "\xff,\xffz",
		"\x00":                  "",
		strings.Repeat("a", 99): "",
	} {
		l, e := s.List(prefix)
		want(t, "List", strings.Join(l, ","), wanted)
		want(t, "List", e, api.OK)
	}
	after := s.Stats()
	want(t, "Lists", after.By[api.OpList]-before.By[api.OpList], 8)
	after.Calls, after.By = before.Calls, before.By
	want(t, "nothing has changed", after, before)
}
