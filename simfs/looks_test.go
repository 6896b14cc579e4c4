package simfs_test

import (
	"bytes"
	"fmt"
	"slices"
	"strings"
	"sync"
	"testing"

	"mill/api"
	"mill/simfs"
)

// P1.15: Put's errors, in their order.
func TestPutRefuses(t *testing.T) {
	s := small(t, api.FsConfig{})
	put(t, s, "a", "12345")
	put(t, s, "b", "12345")
	want(t, "full, and no room", s.Put("c", make([]byte, 11)), api.ErrFull)
	want(t, "no room", s.Put("a", make([]byte, 6)), api.ErrSpace)
	f := open(t, s, "a", api.ModeRead)
	want(t, "busy, and no room", s.Put("a", make([]byte, 11)), api.ErrBusy)
	want(t, "a bad name, and no room", s.Put("", make([]byte, 11)), api.ErrName)
	f.Close()
	f = open(t, s, "a", api.ModeAppend)
	want(t, "busy, written", s.Put("a", nil), api.ErrBusy)
	f.Close()
	want(t, "as it was", files(s), "a=12345/5 b=12345/5")
	want(t, "just fits", s.Put("a", []byte("67890")), api.OK)
	want(t, "files", files(s), "a=67890/5 b=12345/5")
}

// P1.15: what Put lays in is synced, in the place of what was there.
func TestPut(t *testing.T) {
	s := small(t, api.FsConfig{})
	f := open(t, s, "a", api.ModeNew)
	write(t, f, "0123456789", 10, api.OK)
	f.Close()
	put(t, s, "a", "ab")
	want(t, "files", files(s), "a=ab/2")
	put(t, s, "b", "01234567")
	put(t, s, "b", "")
	want(t, "files", files(s), "a=ab/2 b=/0")
	st := s.Stats()
	want(t, "stats", st, api.FsStats{Calls: 3, By: [api.Ops]int{1, 0, 1, 0, 1}, Made: 1, Written: 10, Peak: 1, Used: 2, Most: 10})
	s.Reboot(0)
	want(t, "all synced", files(s), "a=ab/2 b=/0")
	s.Cut()
	put(t, s, "b", "dark")
	want(t, "in the dark", files(s), "a=ab/2 b=dark/4")
	want(t, "most", s.Stats().Most, 6)
}

// P1.15: looks at what is not there, and that looks change nothing.
func TestLooks(t *testing.T) {
	s := small(t, api.FsConfig{})
	f := open(t, s, "a", api.ModeNew)
	write(t, f, "abc", 3, api.OK)
	before := s.Stats()
	for _, n := range []string{"b", "", "a\x00", strings.Repeat("x", 100)} {
		b, ok := s.Look(n)
		k, there := s.Synced(n)
		if len(b) != 0 || ok || k != 0 || there {
			t.Errorf("%q: %q, %v, %d, %v", n, b, ok, k, there)
		}
	}
	want(t, "files", files(s), "a=abc/0")
	want(t, "Name", f.Name(), "a")
	want(t, "Taken of a File", len(f.Taken()), 0)
	want(t, "stats", s.Stats(), before)
	f.Close()
	want(t, "Name of a closed File", f.Name(), "a")
	s.Remove("a")
	want(t, "Name of a File whose file is gone", f.Name(), "a")
	f = open(t, s, "a", api.ModeNew)
	f.Close()
	f = open(t, s, "a", api.ModeRead)
	want(t, "Taken of a File that reads", len(f.Taken()), 0)
	in, k := s.Input([]byte("x")), s.Sink(9)
	want(t, "Name of an Input", in.Name(), "")
	want(t, "Name of a Sink", k.Name(), "")
	want(t, "Taken of an Input", len(in.Taken()), 0)
	want(t, "Taken of nothing", len(k.Taken()), 0)
	write(t, k, "ab", 2, api.OK)
	want(t, "Taken", string(k.Taken()), "ab")
	k.Close()
	want(t, "Taken, closed", string(k.Taken()), "ab")
	s.Cut()
	want(t, "Taken, dark", string(k.Taken()), "ab")
}

// P1.16: all the counts, step by step.
func TestStats(t *testing.T) {
	s := system(t, api.FsConfig{Capacity: 20, Files: 9, Handles: 9})
	st := api.FsStats{}
	step := func(what string) {
		t.Helper()
		want(t, what, s.Stats(), st)
	}
	call := func(op api.Op) {
		st.Calls++
		st.By[op]++
	}
	put(t, s, "p", "12345678")
	st.Used, st.Most = 8, 8
	step("Put")
	f := open(t, s, "a", api.ModeNew)
	call(api.OpOpen)
	st.Made, st.Open, st.Peak = 1, 1, 1
	step("Open")
	write(t, f, "abcd", 4, api.OK)
	call(api.OpWrite)
	st.Written, st.Used, st.Most = 4, 12, 12
	step("Write")
	g := open(t, s, "p", api.ModeTrunc)
	call(api.OpOpen)
	st.Open, st.Peak, st.Used = 2, 2, 4
	step("Open to empty")
	write(t, g, "0123456789abcdefXYZ", 16, api.ErrSpace)
	call(api.OpWrite)
	st.Written, st.Used, st.Most = 20, 20, 20
	step("Write up to the end")
	f.Close()
	g.Close()
	call(api.OpClose)
	call(api.OpClose)
	st.Open = 0
	step("Close")
	s.Rename("a", "p")
	call(api.OpRename)
	st.Used = 4
	step("Rename")
	h := open(t, s, "q", api.ModeAppend)
	call(api.OpOpen)
	st.Made, st.Open = 2, 1
	step("Open to append")
	h.Sync()
	call(api.OpSync)
	h.Close()
	call(api.OpClose)
	st.Open = 0
	s.Remove("p")
	call(api.OpRemove)
	st.Used = 0
	step("Remove")
	s.Sink(-1).Write([]byte("x"))
	call(api.OpWrite)
	s.Input([]byte("x")).Read(1)
	call(api.OpRead)
	s.List("")
	call(api.OpList)
	s.Stat("x")
	call(api.OpStat)
	step("streams, List, Stat")
	s.Interrupt()
	st.Stopped = true
	step("Interrupt")
	s.Cut()
	st.Dark = true
	step("Cut")
}

// P1.16: the kinds that Open makes: only files that were not there.
func TestMade(t *testing.T) {
	s := system(t, api.FsConfig{})
	put(t, s, "a", "x")
	for i, mode := range []api.Mode{api.ModeRead, api.ModeTrunc, api.ModeAppend} {
		open(t, s, "a", mode).Close()
		want(t, "made, there", s.Stats().Made, i)
		open(t, s, fmt.Sprint(i), api.ModeAppend).Close()
		want(t, "made", s.Stats().Made, i+1)
	}
}

// spoil writes over all of a list, spare room included.
func spoil(b []byte) {
	b = b[:cap(b)]
	for i := range b {
		b[i] = '?'
	}
}

// P1.17, R4: bytes that are handed in stay as they are, and are not kept.
func TestHandedIn(t *testing.T) {
	s := system(t, api.FsConfig{})
	fresh := func() []byte { return append(make([]byte, 0, 64), "abc"...) }
	whole := fresh()[:64]
	b, c, d := fresh(), fresh(), fresh()
	put(t, s, "z", "")
	want(t, "Put", s.Put("a", b), api.OK)
	f := open(t, s, "f", api.ModeNew)
	k, in := s.Sink(-1), s.Input(d)
	f.Write(c)
	k.Write(c)
	write(t, f, "de", 2, api.OK)
	write(t, k, "de", 2, api.OK)
	for _, x := range [][]byte{b, c, d} {
		want(t, "spare room", bytes.Equal(x[:64], whole), true)
		spoil(x)
	}
	g := open(t, s, "a", api.ModeAppend)
	write(t, g, "de", 2, api.OK)
	want(t, "spare room", string(b[:6]), "??????")
	want(t, "files", files(s), "a=abcde/3 f=abcde/0 z=/0")
	want(t, "taken", string(k.Taken()), "abcde")
	read(t, in, 9, "abc")
}

// P1.17, R4: bytes and names that are answered are new memory.
func TestAnswered(t *testing.T) {
	s := system(t, api.FsConfig{})
	put(t, s, "a", "abcdef")
	put(t, s, "b", "")
	r, k, in := open(t, s, "a", api.ModeRead), s.Sink(-1), s.Input([]byte("abcdef"))
	write(t, k, "abc", 3, api.OK)
	first, _ := r.Read(3)
	third, _ := in.Read(3)
	look, _ := s.Look("a")
	taken := k.Taken()
	for _, b := range [][]byte{first, third, look, taken} {
		want(t, "spare room", bytes.Contains(b[:cap(b)], []byte("?")), false)
		spoil(b)
	}
	empty, _ := s.Look("b")
	spoil(empty)
	read(t, r, 9, "def")
	read(t, in, 9, "def")
	write(t, k, "d", 1, api.OK)
	want(t, "taken", string(k.Taken()), "abcd")
	want(t, "files", files(s), "a=abcdef/6 b=/0")
	l, _ := s.List("")
	names := s.Names()
	l[0], names[1] = "?", "?"
	l, _ = s.List("")
	want(t, "List", slices.Equal(l, []string{"a", "b"}), true)
	want(t, "Names", slices.Equal(s.Names(), []string{"a", "b"}), true)
}

// P1.17: several goroutines at one time: each call is whole.
func TestTogether(t *testing.T) {
	const workers, times = 8, 200
	s := system(t, api.FsConfig{Capacity: 1 << 20, Files: 50, Handles: 50, Interrupt: workers * times})
	shared := s.Sink(-1)
	var all sync.WaitGroup
	for w := range workers {
		all.Go(func() {
			name := fmt.Sprint(w)
			for range times {
				f, e := s.Open(name, api.ModeAppend)
				if e != api.OK {
					t.Errorf("Open: %d", e)
					return
				}
				f.Write([]byte(name))
				shared.Write([]byte(strings.Repeat(name, 3)))
				f.Sync()
				f.Close()
				s.Stats()
				s.Names()
				s.Look(name)
				s.Done()
				f.Name()
				shared.Taken()
			}
		})
	}
	all.Add(1)
	go func() {
		defer all.Done()
		<-s.Done()
	}()
	all.Wait()
	n := workers * times
	st := s.Stats()
	want(t, "stats", st, api.FsStats{Calls: 5 * n, By: [api.Ops]int{n, 0, 2 * n, n, n}, Made: workers, Written: n, Peak: st.Peak, Used: n, Most: n, Stopped: true})
	for w := range workers {
		name := fmt.Sprint(w)
		b, _ := s.Look(name)
		want(t, "bytes", string(b), strings.Repeat(name, times))
	}
	b := shared.Taken()
	want(t, "taken", len(b), 3*n)
	for i := 0; i+3 <= len(b); i += 3 {
		if b[i] != b[i+1] || b[i] != b[i+2] {
			t.Fatal("a Write is not whole")
		}
	}
}

// together runs a function in some goroutines that begin at one time, and waits for all of them.
func together(workers int, do func(w int)) {
	var all sync.WaitGroup
	begin := make(chan int)
	for w := range workers {
		all.Go(func() {
			<-begin
			do(w)
		})
	}
	close(begin)
	all.Wait()
}

// P1.17: every kind of call, while files are laid in and looked at: none is lost.
func TestEachKindTogether(t *testing.T) {
	const workers, times = 8, 1500
	s := system(t, api.FsConfig{})
	in, k, closed := s.Input(make([]byte, workers*times)), s.Sink(-1), s.Sink(0)
	var got [workers]int
	together(workers, func(w int) {
		name := fmt.Sprint(w)
		for range times {
			s.Open("missing", api.ModeRead)
			b, _ := in.Read(1)
			got[w] += len(b)
			k.Write([]byte(name))
			k.Sync()
			closed.Close()
			s.Remove("missing")
			s.Rename("missing", name)
			s.Stat(name)
			s.List(name)
			s.Put(name, []byte(name))
			s.Look(name)
			s.Synced(name)
			s.Names()
		}
	})
	const n = workers * times
	want(t, "stats", s.Stats(), api.FsStats{Calls: 9 * n, By: [api.Ops]int{n, n, n, n, n, n, n, n, n}, Used: workers, Most: workers})
	sum := 0
	for _, g := range got {
		sum += g
	}
	want(t, "bytes that were read", sum, n)
	want(t, "bytes that were taken", len(k.Taken()), n)
}

// P1.17: an interrupt that many send at once comes once.
func TestInterruptTogether(t *testing.T) {
	s := system(t, api.FsConfig{})
	for range 300 {
		done := s.Done()
		together(8, func(int) { s.Interrupt() })
		want(t, "stopped", s.Stopped() && isClosed(done), true)
		s.Arm(api.FsConfig{})
	}
}

// P1.17: lives and plans that begin between the calls of others are whole.
func TestLivesTogether(t *testing.T) {
	s := system(t, api.FsConfig{})
	together(8, func(w int) {
		name := fmt.Sprint(w)
		for i := range 1500 {
			if f, e := s.Open(name, api.ModeTrunc); e == api.OK {
				f.Write([]byte(name))
				f.Close()
			}
			s.Remove(name)
			switch {
			case w == 0 && i%3 == 0:
				s.Reboot(0)
			case w == 1:
				s.Arm(api.FsConfig{Interrupt: 2})
			case w == 2 && i%50 == 0:
				s.Cut()
			}
			st, sum := s.Stats(), 0
			for _, n := range st.By {
				sum += n
			}
			if sum != st.Calls || st.Open > st.Peak || st.Used > st.Most || st.Open < 0 || st.Used < 0 {
				t.Errorf("stats: %v", st)
				return
			}
		}
	})
	want(t, "Reboot", s.Reboot(0), api.OK)
	want(t, "open", s.Stats().Open, 0)
}

// R5: two systems do not touch each other.
func TestApart(t *testing.T) {
	a, b := system(t, api.FsConfig{Power: 2}), system(t, api.FsConfig{})
	put(t, a, "x", "1")
	a.Interrupt()
	a.Stat("x")
	a.Stat("x")
	want(t, "files", files(b), "")
	want(t, "stats", b.Stats(), api.FsStats{})
	want(t, "closed", isClosed(b.Done()), false)
	for _, s := range []*simfs.FS{a, b} {
		s.Reboot(0)
	}
	want(t, "files", files(a), "x=1/1")
}
