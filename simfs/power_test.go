package simfs_test

import (
	"fmt"
	"math"
	"strings"
	"testing"

	"mill/api"
	"mill/simfs"
)

// P1.13: Cut and Interrupt by hand; both once and again.
func TestByHand(t *testing.T) {
	s := system(t, api.FsConfig{})
	done := s.Done()
	want(t, "the same channel", s.Done() == done, true)
	want(t, "closed", isClosed(done), false)
	s.Interrupt()
	s.Interrupt()
	want(t, "stopped", s.Stopped() && s.Stats().Stopped && isClosed(done) && s.Done() == done, true)
	want(t, "no call", s.Stats().Calls, 0)
	want(t, "Put, stopped", s.Put("a", []byte("x")), api.OK)
	f, e := s.Open("a", api.ModeRead)
	want(t, "a call, stopped", e, api.OK)
	read(t, f, 9, "x")
	want(t, "dark", s.Stats().Dark, false)
	s.Cut()
	s.Cut()
	want(t, "dark", s.Stats().Dark, true)
	want(t, "stopped still", s.Stopped(), true)
	noRead(t, f, 9, api.ErrPower)
	s = system(t, api.FsConfig{})
	s.Cut()
	done = s.Done()
	want(t, "Cut stops nothing", s.Stopped() || isClosed(done), false)
	s.Interrupt()
	want(t, "stopped in the dark", s.Stopped() && isClosed(done), true)
}

// P1.13: an interrupt by hand and one of the plan are one.
func TestInterruptTwice(t *testing.T) {
	s := system(t, api.FsConfig{Interrupt: 1})
	done := s.Done()
	s.Interrupt()
	s.Stat("a")
	s.Interrupt()
	want(t, "stopped", s.Stopped() && isClosed(done) && s.Done() == done, true)
}

// P1.13: many can wait for the interrupt at once, and none of them holds a call up.
func TestManyWait(t *testing.T) {
	s := system(t, api.FsConfig{Interrupt: 2})
	const many = 20
	ready, over := make(chan int), make(chan int)
	for range many {
		go func() {
			done := s.Done()
			ready <- 1
			<-done
			over <- 1
		}()
	}
	for range many {
		<-ready
	}
	s.Stat("a")
	select {
	case <-over:
		t.Error("told too early")
	default:
	}
	s.Stat("a")
	for range many {
		<-over
	}
}

// P1.13: in the dark nothing changes but by Put, and looks go on.
func TestDark(t *testing.T) {
	n := newNine(t, api.FsConfig{})
	before := files(n.s)
	n.s.Cut()
	for _, op := range kinds {
		want(t, "good", n.good(t, op), api.ErrPower)
		e, _ := n.bad(op)
		want(t, "bad", e, api.ErrPower)
	}
	for _, mode := range modes {
		noOpen(t, n.s, "x", mode, api.ErrPower)
	}
	want(t, "files", files(n.s), before)
	want(t, "open", n.s.Stats().Open, 2)
	want(t, "Put of an open one", n.s.Put("a", nil), api.ErrBusy)
	want(t, "Put", n.s.Put("d", []byte("new")), api.OK)
	want(t, "files", files(n.s), "a=aaaa/4 d=new/3 w=ww/0")
	want(t, "Arm", n.s.Arm(api.FsConfig{}), api.ErrPower)
	want(t, "dark still", n.s.Stats().Dark, true)
}

// P1.14: what is refused, and that it changes nothing.
func TestRebootRefuses(t *testing.T) {
	s := system(t, api.FsConfig{Short: []int{1}})
	f := open(t, s, "a", api.ModeNew)
	write(t, f, "abc", 3, api.OK)
	s.Interrupt()
	s.Cut()
	before, done := s.Stats(), s.Done()
	for _, keep := range []int{-1, math.MinInt} {
		want(t, "below 0", s.Reboot(keep), api.ErrArg)
	}
	want(t, "stats", s.Stats(), before)
	want(t, "files", files(s), "a=abc/0")
	want(t, "done", s.Done() == done, true)
}

// P1.14: of each file the synced bytes stay, and keep of the others.
func TestRebootKeeps(t *testing.T) {
	for _, keep := range []int{0, 1, 2, 3, 4, 100, math.MaxInt} {
		for _, dark := range []bool{false, true} {
			s := system(t, api.FsConfig{})
			used := 0
			var wanted []string
			for synced := range 4 {
				for rest := range 4 {
					name := fmt.Sprint(synced, rest)
					f := open(t, s, name, api.ModeNew)
					write(t, f, "abc"[:synced], synced, api.OK)
					f.Sync()
					write(t, f, "xyz"[:rest], rest, api.OK)
					if rest > 1 {
						f.Close()
					}
					data := "abc"[:synced] + "xyz"[:min(rest, keep)]
					wanted = append(wanted, fmt.Sprintf("%s=%s/%d", name, data, len(data)))
					used += len(data)
				}
			}
			if dark {
				s.Cut()
			}
			want(t, "Reboot", s.Reboot(keep), api.OK)
			want(t, "files", files(s), strings.Join(wanted, " "))
			want(t, "stats", s.Stats(), api.FsStats{Used: used, Most: used})
		}
	}
}

// P1.14: bytes that were lost do not come back, and give their room free.
func TestRebootFrees(t *testing.T) {
	s := small(t, api.FsConfig{})
	f := open(t, s, "a", api.ModeNew)
	write(t, f, "0123456789", 10, api.OK)
	s.Reboot(4)
	f = open(t, s, "a", api.ModeAppend)
	write(t, f, "abcdefgh", 6, api.ErrSpace)
	want(t, "files", files(s), "a=0123abcdef/4")
	s.Reboot(1)
	want(t, "files", files(s), "a=0123a/5")
}

// P1.14: every File is closed, streams too, and stays so; its calls are calls.
func TestRebootCloses(t *testing.T) {
	s := system(t, api.FsConfig{Capacity: 100, Files: 3, Handles: 3})
	put(t, s, "a", "abc")
	l := []*simfs.File{open(t, s, "a", api.ModeRead), open(t, s, "a", api.ModeRead), open(t, s, "b", api.ModeNew), s.Input([]byte("x")), s.Sink(9)}
	write(t, l[4], "taken", 5, api.OK)
	want(t, "Reboot", s.Reboot(0), api.OK)
	want(t, "open", s.Stats().Open, 0)
	w := open(t, s, "a", api.ModeAppend)
	for range 2 {
		for _, f := range l {
			noRead(t, f, 1, api.ErrClosed)
			write(t, f, "x", 0, api.ErrClosed)
			want(t, "Sync", f.Sync(), api.ErrClosed)
			want(t, "Close", f.Close(), api.ErrClosed)
		}
	}
	want(t, "taken", string(l[4].Taken()), "taken")
	want(t, "Name", l[2].Name(), "b")
	want(t, "stats", s.Stats(), api.FsStats{Calls: 41, By: [api.Ops]int{1, 10, 10, 10, 10, 0, 0, 0, 0}, Open: 1, Peak: 1, Used: 3, Most: 3})
	want(t, "Arm", s.Arm(api.FsConfig{Faults: []api.Fault{{Op: api.OpClose, Nth: 1}}}), api.OK)
	want(t, "a refused Close of an old File", l[0].Close(), api.ErrIO)
	want(t, "open", s.Stats().Open, 1)
	noOpen(t, s, "a", api.ModeRead, api.ErrBusy)
	want(t, "Close", w.Close(), api.OK)
}

// P1.14: the plan is spent; the system is neither dark nor stopped; the numbers begin anew.
func TestRebootSpendsPlan(t *testing.T) {
	c := api.FsConfig{Short: []int{1}, Interrupt: 3, Power: 5}
	for _, op := range kinds {
		for nth := 1; nth <= 4; nth++ {
			c.Faults = append(c.Faults, api.Fault{Op: op, Nth: nth})
		}
	}
	s := system(t, c)
	put(t, s, "a", "abc")
	first := s.Done()
	s.Stat("a")
	want(t, "Reboot", s.Reboot(0), api.OK)
	second := s.Done()
	want(t, "the same channel", first == second, false)
	for range 6 {
		i, e := s.Stat("a")
		want(t, "Stat", i.Size, 3)
		want(t, "Stat", e, api.OK)
	}
	f := open(t, s, "a", api.ModeRead)
	read(t, f, 9, "abc")
	f.Close()
	want(t, "calls", s.Stats().Calls, 9)
	want(t, "stopped", s.Stopped() || isClosed(first) || isClosed(second), false)
	want(t, "Arm", s.Arm(api.FsConfig{Interrupt: 1, Power: 2}), api.OK)
	third := s.Done()
	s.Stat("a")
	s.Stat("a")
	want(t, "stopped and dark", s.Stopped() && s.Stats().Dark && isClosed(third), true)
	want(t, "Reboot", s.Reboot(0), api.OK)
	want(t, "stopped or dark", s.Stopped() || s.Stats().Dark || isClosed(s.Done()), false)
	want(t, "closed still", isClosed(third), true)
	want(t, "never closed", isClosed(first) || isClosed(second), false)
	s.Interrupt()
	want(t, "never closed", isClosed(first) || isClosed(second), false)
}

// P1.14: the sizes of New hold in every life.
func TestRebootKeepsSizes(t *testing.T) {
	s := small(t, api.FsConfig{})
	s.Reboot(0)
	put(t, s, "a", "12345")
	put(t, s, "b", "12345")
	want(t, "Put of a third", s.Put("c", nil), api.ErrFull)
	want(t, "Put of 6", s.Put("b", []byte("123456")), api.ErrSpace)
	open(t, s, "a", api.ModeRead)
	open(t, s, "a", api.ModeRead)
	noOpen(t, s, "b", api.ModeRead, api.ErrHandles)
}
