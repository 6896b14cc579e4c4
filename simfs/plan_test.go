package simfs_test

import (
	"math"
	"testing"

	"mill/api"
	"mill/simfs"
)

// badPlans are configurations whose Short, Faults, Interrupt or Power may not be.
func badPlans() []api.FsConfig {
	ones := func(n int) []int {
		l := make([]int, n)
		for i := range l {
			l[i] = 1
		}
		return l
	}
	faults := make([]api.Fault, api.MaxFaults+1)
	for i := range faults {
		faults[i].Nth = 1
	}
	l := []api.FsConfig{
		{Short: []int{0}}, {Short: []int{-1}}, {Short: []int{1, 2, 0}}, {Short: ones(api.MaxShort + 1)},
		{Faults: faults}, {Faults: []api.Fault{{Op: api.Ops, Nth: 1}}}, {Faults: []api.Fault{{Op: 255, Nth: 1}}},
		{Faults: []api.Fault{{Op: api.OpRead, Nth: 0}}}, {Faults: []api.Fault{{Op: api.OpRead, Nth: -1}}},
		{Faults: []api.Fault{{Op: api.OpRead, Nth: 1}, {Op: api.OpWrite, Nth: 0, Space: true}}},
		{Interrupt: -1}, {Power: -1}, {Interrupt: math.MinInt}, {Power: math.MinInt},
	}
	for _, op := range kinds {
		if op != api.OpWrite {
			l = append(l, api.FsConfig{Faults: []api.Fault{{Op: op, Nth: 1, Space: true}}})
		}
	}
	return l
}

// goodPlans are configurations whose plans stand just at their bounds.
func goodPlans() []api.FsConfig {
	short := make([]int, api.MaxShort)
	for i := range short {
		short[i] = 1
	}
	short[0] = math.MaxInt
	faults := make([]api.Fault, api.MaxFaults)
	for i := range faults {
		faults[i] = api.Fault{Op: api.OpList, Nth: math.MaxInt}
	}
	return []api.FsConfig{
		{}, {Short: short}, {Faults: faults}, {Interrupt: math.MaxInt}, {Power: math.MaxInt}, {Short: []int{}, Faults: []api.Fault{}},
		{Faults: []api.Fault{{Op: api.OpOpen, Nth: 1}, {Op: api.OpOpen, Nth: 1}, {Op: api.OpWrite, Nth: 2, Space: true}}},
	}
}

// P1.1: what New refuses and takes, at the limits and one past them.
func TestNewBounds(t *testing.T) {
	bad := []api.FsConfig{{Capacity: -1, Files: 1, Handles: 1}, {Capacity: api.MaxCapacity + 1, Files: 1, Handles: 1}, {Capacity: math.MinInt, Files: 1, Handles: 1},
		{Files: 0, Handles: 1}, {Files: -1, Handles: 1}, {Files: api.MaxFiles + 1, Handles: 1}, {Files: 1, Handles: 0}, {Files: 1, Handles: -1}, {Files: 1, Handles: api.MaxHandles + 1}, {}}
	for _, c := range badPlans() {
		c.Files, c.Handles = 1, 1
		bad = append(bad, c)
	}
	for i, c := range bad {
		if s, e := simfs.New(c); s != nil || e != api.ErrSystem {
			t.Errorf("bad %d: %v, %d", i, s, e)
		}
	}
	good := []api.FsConfig{{Capacity: 0, Files: 1, Handles: 1}, {Capacity: api.MaxCapacity, Files: api.MaxFiles, Handles: api.MaxHandles}}
	for _, c := range goodPlans() {
		c.Files, c.Handles = 1, 1
		good = append(good, c)
	}
	for i, c := range good {
		if s, e := simfs.New(c); s == nil || e != api.OK {
			t.Errorf("good %d: %d", i, e)
		}
	}
}

// P1.1: a new system is empty, and has its plan.
func TestNewState(t *testing.T) {
	s := small(t, api.FsConfig{Faults: []api.Fault{{Op: api.OpStat, Nth: 1}}})
	want(t, "files", files(s), "")
	want(t, "stats", s.Stats(), api.FsStats{})
	want(t, "stopped", s.Stopped(), false)
	want(t, "done", isClosed(s.Done()), false)
	_, e := s.Stat("a")
	want(t, "the plan's fault", e, api.ErrIO)
	want(t, "calls", s.Stats().Calls, 1)
}

// P1.1, P1.2, P1.17: the lists of a plan are copied, and not written to.
func TestPlanIsCopied(t *testing.T) {
	for _, armed := range []bool{false, true} {
		c := api.FsConfig{Capacity: 9, Files: 1, Handles: 1, Short: make([]int, 1, 4), Faults: make([]api.Fault, 1, 4)}
		c.Short[0] = 2
		c.Faults[0] = api.Fault{Op: api.OpStat, Nth: 1}
		s, e := simfs.New(c)
		if armed {
			s, _ = simfs.New(api.FsConfig{Capacity: 9, Files: 1, Handles: 1})
			e = s.Arm(c)
		}
		want(t, "made", e, api.OK)
		c.Short[0] = 1
		c.Faults[0].Op = api.OpRead
		read(t, s.Input([]byte("abc")), 3, "ab")
		_, e = s.Stat("a")
		want(t, "Stat", e, api.ErrIO)
		want(t, "Short's spare room", c.Short[:4][1], 0)
		want(t, "Faults' spare room", c.Faults[:4][1], api.Fault{})
	}
}

// P1.2: what Arm refuses, in its order, and that a refused one changes nothing.
func TestArmRefuses(t *testing.T) {
	var none *simfs.FS
	want(t, "nil", none.Arm(api.FsConfig{Power: -1}), api.ErrNil)
	s := small(t, api.FsConfig{Short: []int{1}, Power: 4})
	s.Interrupt()
	done, in := s.Done(), s.Input([]byte("abc"))
	read(t, in, 9, "a")
	before := s.Stats()
	for i, c := range badPlans() {
		if e := s.Arm(c); e != api.ErrSystem {
			t.Errorf("bad %d: %d", i, e)
		}
	}
	want(t, "stats", s.Stats(), before)
	want(t, "done", s.Done(), done)
	read(t, in, 9, "b")
	read(t, in, 9, "c")
	noRead(t, in, 9, api.ErrPower)
	want(t, "in the dark", s.Arm(api.FsConfig{}), api.ErrPower)
	want(t, "in the dark, a bad one", s.Arm(api.FsConfig{Power: -1}), api.ErrPower)
	noRead(t, in, 9, api.ErrPower)
	want(t, "calls", s.Stats().Calls, 5)
}

// P1.2: the sizes that Arm is given are not looked at, and not taken.
func TestArmKeepsSizes(t *testing.T) {
	s := small(t, api.FsConfig{})
	for i, c := range goodPlans() {
		if e := s.Arm(c); e != api.OK {
			t.Errorf("good %d: %d", i, e)
		}
	}
	for _, c := range []api.FsConfig{{Capacity: -1, Files: -1, Handles: 1 << 30}, {Capacity: 500, Files: 100, Handles: 100}} {
		want(t, "Arm", s.Arm(c), api.OK)
		want(t, "Put of 11", s.Put("a", make([]byte, 11)), api.ErrSpace)
		want(t, "Put of 10", s.Put("a", make([]byte, 10)), api.OK)
		want(t, "Put", s.Put("b", nil), api.OK)
		want(t, "Put of a third", s.Put("c", nil), api.ErrFull)
		f, g := open(t, s, "a", api.ModeRead), open(t, s, "b", api.ModeRead)
		noOpen(t, s, "a", api.ModeRead, api.ErrHandles)
		f.Close()
		g.Close()
	}
}

// P1.2: the new plan is there in the place of the old one, and counts from 1 on.
func TestArmBeginsAnew(t *testing.T) {
	s := system(t, api.FsConfig{Short: []int{1, 2}, Faults: []api.Fault{{Op: api.OpStat, Nth: 2}}, Interrupt: 6, Power: 7})
	in := s.Input([]byte("abcdefghijkl"))
	read(t, in, 9, "a")
	s.Stat("x")
	want(t, "Arm", s.Arm(api.FsConfig{Short: []int{1, 3}, Faults: []api.Fault{{Op: api.OpStat, Nth: 1}}, Interrupt: 4, Power: 6}), api.OK)
	read(t, in, 9, "b")
	read(t, in, 9, "cde")
	_, e := s.Stat("x")
	want(t, "the first Stat", e, api.ErrIO)
	want(t, "stopped by the third", s.Stopped(), false)
	_, e = s.Stat("x")
	want(t, "the second Stat", e, api.ErrMissing)
	want(t, "stopped by the fourth", s.Stopped(), true)
	read(t, in, 9, "f")
	noRead(t, in, 9, api.ErrPower)
	want(t, "Reads", s.Stats().By[api.OpRead], 4)
	want(t, "Stats", s.Stats().By[api.OpStat], 2)
}

// P1.2: an empty plan takes the old one away.
func TestArmEmpty(t *testing.T) {
	s := system(t, api.FsConfig{Short: []int{1}, Faults: []api.Fault{{Op: api.OpRead, Nth: 1}}, Interrupt: 1, Power: 2})
	want(t, "Arm", s.Arm(api.FsConfig{}), api.OK)
	in := s.Input([]byte("abc"))
	read(t, in, 9, "abc")
	read(t, in, 9, "")
	want(t, "stopped", s.Stopped(), false)
}

// P1.2, P1.13: behind Arm nothing is stopped; the channel is another, and one that was not closed never is.
func TestArmEndsInterrupt(t *testing.T) {
	s := system(t, api.FsConfig{})
	first := s.Done()
	want(t, "Arm", s.Arm(api.FsConfig{Interrupt: 1}), api.OK)
	second := s.Done()
	want(t, "the same channel", first == second, false)
	s.Stat("x")
	want(t, "stopped", s.Stopped(), true)
	want(t, "stopped, in Stats", s.Stats().Stopped, true)
	want(t, "the first is closed", isClosed(first), false)
	want(t, "the second is closed", isClosed(second), true)
	want(t, "Arm", s.Arm(api.FsConfig{}), api.OK)
	want(t, "stopped", s.Stopped(), false)
	want(t, "stopped, in Stats", s.Stats().Stopped, false)
	want(t, "the third is closed", isClosed(s.Done()), false)
	want(t, "the second is closed still", isClosed(second), true)
	s.Interrupt()
	want(t, "the third is closed", isClosed(s.Done()), true)
	want(t, "the first is closed", isClosed(first), false)
}

// P1.2: files and what is open stay; what becomes of the counts.
func TestArmCounts(t *testing.T) {
	s := system(t, api.FsConfig{})
	put(t, s, "a", "abcdef")
	put(t, s, "big", "0123456789")
	r, w, x := open(t, s, "a", api.ModeRead), open(t, s, "w", api.ModeNew), open(t, s, "x", api.ModeNew)
	read(t, r, 2, "ab")
	write(t, w, "xyz", 3, api.OK)
	w.Sync()
	x.Close()
	s.Remove("big")
	want(t, "ahead", s.Stats(), api.FsStats{Calls: 8, By: [api.Ops]int{3, 1, 1, 1, 1, 1, 0, 0, 0}, Made: 2, Written: 3, Open: 2, Peak: 3, Used: 9, Most: 19})
	want(t, "Arm", s.Arm(api.FsConfig{}), api.OK)
	want(t, "behind", s.Stats(), api.FsStats{Open: 2, Peak: 2, Used: 9, Most: 9})
	want(t, "files", files(s), "a=abcdef/6 w=xyz/3 x=/0")
	read(t, r, 2, "cd")
	write(t, w, "!", 1, api.OK)
	want(t, "then", s.Stats(), api.FsStats{Calls: 2, By: [api.Ops]int{0, 1, 1}, Written: 1, Open: 2, Peak: 2, Used: 10, Most: 10})
}

// P1.3: every kind of call: power comes ahead of a fault, a fault ahead of its own errors.
func TestOrderAtCalls(t *testing.T) {
	for _, op := range kinds {
		fault := []api.Fault{{Op: op, Nth: 1}}
		n := newNine(t, api.FsConfig{Power: 1, Interrupt: 1, Faults: fault})
		e, _ := n.bad(op)
		want(t, "power, fault and own", e, api.ErrPower)
		want(t, "the interrupt comes all the same", n.s.Stopped(), true)
		want(t, "dark", n.s.Stats().Dark, true)
		want(t, "good in the dark", n.good(t, op), api.ErrPower)
		want(t, "calls", n.s.Stats().Calls, 2)
		want(t, "calls of the kind", n.s.Stats().By[op], 2)
		n = newNine(t, api.FsConfig{Faults: fault})
		e, _ = n.bad(op)
		want(t, "fault and own", e, api.ErrIO)
		e, own := n.bad(op)
		want(t, "own", e, own)
		want(t, "calls of the kind", n.s.Stats().By[op], 2)
	}
}

// P1.3: every call has its numbers, whatever it answers; looks and hands have none, and no plan refuses them.
func TestNumbers(t *testing.T) {
	n := newNine(t, api.FsConfig{Faults: []api.Fault{{Op: api.OpStat, Nth: 1}}})
	var by [api.Ops]int
	for _, op := range kinds {
		n.good(t, op)
		n.bad(op)
		by[op] = 2
	}
	want(t, "calls", n.s.Stats().Calls, 18)
	want(t, "by kind", n.s.Stats().By, by)
	n.s.Cut()
	for _, op := range kinds {
		want(t, "in the dark", n.good(t, op), api.ErrPower)
		by[op]++
	}
	want(t, "calls", n.s.Stats().Calls, 27)
	want(t, "by kind", n.s.Stats().By, by)
	s := system(t, api.FsConfig{Power: 1})
	put(t, s, "a", "x")
	files(s)
	s.Stats()
	s.Stopped()
	s.Done()
	s.Interrupt()
	s.Sink(1).Taken()
	s.Input(nil).Name()
	want(t, "looks and hands", s.Stats(), api.FsStats{Used: 1, Most: 1, Stopped: true})
	s.Stat("a")
	s.Cut()
	want(t, "one call", s.Stats().Calls, 1)
}

// P1.3: calls of streams and of closed Files count too.
func TestNumbersOfStreams(t *testing.T) {
	s := system(t, api.FsConfig{})
	in, out := s.Input([]byte("x")), s.Sink(0)
	in.Read(1)
	in.Close()
	in.Read(1)
	in.Close()
	out.Write(nil)
	out.Sync()
	out.Close()
	out.Write(nil)
	want(t, "stats", s.Stats(), api.FsStats{Calls: 8, By: [api.Ops]int{0, 2, 2, 1, 3}})
}

// P1.3: the call at which the interrupt comes does its work, whatever its kind.
func TestInterruptAtCall(t *testing.T) {
	for _, op := range kinds {
		n := newNine(t, api.FsConfig{Interrupt: 2})
		done := n.s.Done()
		n.s.Stat("none")
		want(t, "stopped too early", n.s.Stopped() || isClosed(done), false)
		want(t, "the second call", n.good(t, op), api.OK)
		want(t, "stopped", n.s.Stopped() && isClosed(done) && n.s.Done() == done, true)
		want(t, "Stats", n.s.Stats().Stopped, true)
		n.s.List("")
		want(t, "still stopped", n.s.Stopped(), true)
	}
}

// P1.3, P1.13: an interrupt that is planned for a call in the dark comes.
func TestInterruptInTheDark(t *testing.T) {
	s := system(t, api.FsConfig{Power: 1, Interrupt: 3})
	done := s.Done()
	s.Stat("a")
	s.Stat("a")
	want(t, "stopped", s.Stopped(), false)
	_, e := s.Stat("a")
	want(t, "Stat", e, api.ErrPower)
	want(t, "stopped", s.Stopped() && isClosed(done), true)
}

// P1.3: the power is off from its call on, that one too, and every kind of call counts for it.
func TestPowerAtCall(t *testing.T) {
	for power := 1; power <= 12; power++ {
		n := newNine(t, api.FsConfig{Power: power})
		for i := 1; i <= 12; i++ {
			op := kinds[[]api.Op{0, 1, 2, 3, 7, 8, 1, 2, 3, 7, 8, 4}[i-1]]
			e := api.OK
			if i >= power {
				e = api.ErrPower
			}
			want(t, "dark ahead", n.s.Stats().Dark, i > power)
			want(t, "call", n.good(t, op), e)
		}
	}
}

// P1.3: the first fault in the list that fits decides; kinds are counted by themselves.
func TestFaultsInOrder(t *testing.T) {
	s := system(t, api.FsConfig{Faults: []api.Fault{
		{Op: api.OpWrite, Nth: 3}, {Op: api.OpWrite, Nth: 1, Space: true}, {Op: api.OpWrite, Nth: 1}, {Op: api.OpWrite, Nth: 2}, {Op: api.OpWrite, Nth: 2, Space: true}, {Op: api.OpSync, Nth: 2}}})
	k := s.Sink(-1)
	want(t, "the first Sync", k.Sync(), api.OK)
	write(t, k, "a", 0, api.ErrSpace)
	want(t, "the second Sync", k.Sync(), api.ErrIO)
	write(t, k, "b", 0, api.ErrIO)
	write(t, k, "c", 0, api.ErrIO)
	write(t, k, "d", 1, api.OK)
	want(t, "taken", string(k.Taken()), "d")
}

// P1.3: a call that the plan or the dark refuses does nothing; only a Close that the plan refuses closes.
func TestRefusedDoesNothing(t *testing.T) {
	const all = "a=aaaa/4 d=dddd/4 w=ww/0"
	for _, op := range kinds {
		n := newNine(t, api.FsConfig{Faults: []api.Fault{{Op: op, Nth: 1}}})
		before := n.s.Stats()
		want(t, "refused", n.good(t, op), api.ErrIO)
		want(t, "files", files(n.s), all)
		after := n.s.Stats()
		want(t, "open", after.Open, map[bool]int{true: 1, false: 2}[op == api.OpClose])
		after.Calls, after.By, after.Open = 0, before.By, before.Open
		want(t, "stats", after, before)
		read(t, n.r, 3, "aaa")
		n = newNine(t, api.FsConfig{Power: 1})
		want(t, "in the dark", n.good(t, op), api.ErrPower)
		want(t, "files", files(n.s), all)
		want(t, "open", n.s.Stats().Open, 2)
	}
	s := system(t, api.FsConfig{Faults: []api.Fault{{Op: api.OpOpen, Nth: 1}, {Op: api.OpOpen, Nth: 2}, {Op: api.OpOpen, Nth: 3}}})
	for _, mode := range []api.Mode{api.ModeNew, api.ModeTrunc, api.ModeAppend} {
		noOpen(t, s, "a", mode, api.ErrIO)
	}
	want(t, "files", files(s), "")
	want(t, "made", s.Stats().Made, 0)
}

// P1.3, P1.11: a refused Close closes, once; the file can be opened again.
func TestRefusedClose(t *testing.T) {
	s := system(t, api.FsConfig{Faults: []api.Fault{{Op: api.OpClose, Nth: 1}, {Op: api.OpClose, Nth: 3}, {Op: api.OpClose, Nth: 4}}})
	f := open(t, s, "a", api.ModeNew)
	want(t, "refused", f.Close(), api.ErrIO)
	want(t, "open", s.Stats().Open, 0)
	write(t, f, "x", 0, api.ErrClosed)
	want(t, "again", f.Close(), api.ErrClosed)
	g := open(t, s, "a", api.ModeTrunc)
	want(t, "refused, of a closed one", f.Close(), api.ErrIO)
	want(t, "open", s.Stats().Open, 1)
	noOpen(t, s, "a", api.ModeRead, api.ErrBusy)
	k := s.Sink(9)
	want(t, "refused, of a stream", k.Close(), api.ErrIO)
	write(t, k, "x", 0, api.ErrClosed)
	want(t, "open", s.Stats().Open, 1)
	want(t, "Close", g.Close(), api.OK)
	want(t, "open", s.Stats().Open, 0)
}

// P1.3: a File that is closed in the dark stays open until Reboot.
func TestCloseInTheDark(t *testing.T) {
	s := system(t, api.FsConfig{})
	f := open(t, s, "a", api.ModeNew)
	s.Cut()
	want(t, "Close", f.Close(), api.ErrPower)
	want(t, "Close", f.Close(), api.ErrPower)
	want(t, "open", s.Stats().Open, 1)
	want(t, "Put", s.Put("a", nil), api.ErrBusy)
	want(t, "Reboot", s.Reboot(0), api.OK)
	want(t, "open", s.Stats().Open, 0)
	want(t, "Put", s.Put("a", nil), api.OK)
}

// P1.3, P1.13 to P1.16, R1: nil systems and nil Files.
func TestNil(t *testing.T) {
	var s *simfs.FS
	var f *simfs.File
	noOpen(t, s, "", 0, api.ErrNil)
	noRead(t, f, 0, api.ErrNil)
	write(t, f, "x", 0, api.ErrNil)
	for i, e := range []api.Errno{s.Remove(""), s.Rename("", ""), s.Reboot(-1), s.Put("", nil), f.Sync(), f.Close()} {
		if e != api.ErrNil {
			t.Errorf("%d: %d", i, e)
		}
	}
	i, e := s.Stat("")
	want(t, "Stat", e, api.ErrNil)
	want(t, "Stat", i, api.FileInfo{})
	l, e := s.List("")
	want(t, "List", e, api.ErrNil)
	s.Interrupt()
	s.Cut()
	b, there := s.Look("a")
	n, synced := s.Synced("a")
	if len(l)+len(b)+n+len(s.Names()) != 0 || there || synced || s.Stopped() || s.Done() != nil || s.Stats() != (api.FsStats{}) {
		t.Error("a nil system answers something")
	}
	if s.Input([]byte("x")) != nil || s.Sink(-1) != nil || f.Name() != "" || len(f.Taken()) != 0 {
		t.Error("streams of a nil system, or a nil File")
	}
}

// R1: what nobody made does not panic.
func TestBare(t *testing.T) {
	s, f := new(simfs.FS), new(simfs.File)
	for range 2 {
		for mode := range api.Mode(6) {
			s.Open("a", mode)
		}
		s.Input([]byte("x")).Read(1)
		s.Sink(-1).Write([]byte("x"))
		s.Put("a", nil)
		s.Remove("a")
		s.Rename("a", "b")
		s.Stat("a")
		s.List("")
		files(s)
		s.Done()
		s.Interrupt()
		s.Interrupt()
		s.Stopped()
		s.Arm(api.FsConfig{})
		s.Cut()
		s.Reboot(1)
		s.Stats()
		f.Read(1)
		f.Write([]byte("x"))
		f.Sync()
		f.Close()
		f.Name()
		f.Taken()
	}
	s = system(t, api.FsConfig{})
	put(t, s, "a", "abc")
	f = open(t, s, "a", api.ModeRead)
	read(t, f, 3, "abc")
	g := *f
	f.Close()
	open(t, s, "a", api.ModeTrunc)
	g.Read(1)
	g.Close()
	g.Close()
}
