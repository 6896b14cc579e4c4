package temps_test

import (
	"fmt"
	"math/rand"
	"slices"
	"strings"
	"testing"

	"mill/api"
	"mill/simfs"
	"mill/temps"
)

// P11.1: prefixes that may be and that may not be; no call.
func TestNew(t *testing.T) {
	s := system(t, api.FsConfig{})
	for _, prefix := range []string{"t", ".", " ", "/", "\xff", "\x01", "-", "a.b", strings.Repeat("p", 32)} {
		r := registry(t, s, prefix)
		names(t, r)
		reserves(t, s, r, prefix+".00001", 1)
	}
	arm(t, s, api.FsConfig{})
	for _, prefix := range []string{"", "\x00", "a\x00", "\x00a", "a\x00b", strings.Repeat("p", 33), strings.Repeat("p", 1000), strings.Repeat("p", 31) + "\x00"} {
		r, e := temps.New(s, prefix)
		if r != nil || e != api.ErrPrefix {
			t.Errorf("New(%q): %v, %d", prefix, r, e)
		}
		r, e = temps.New(nil, prefix)
		if r != nil || e != api.ErrNil {
			t.Errorf("New(nil, %q): %v, %d", prefix, r, e)
		}
	}
	r, e := temps.New(nil, "t", "a")
	if r != nil || e != api.ErrNil {
		t.Errorf("New(nil): %v, %d", r, e)
	}
	made(t, s, "New")
}

// P11.2: names are given in their order, without a file, a name of the registry and one to avoid; nothing is made.
func TestReserve(t *testing.T) {
	s := system(t, api.FsConfig{})
	put(t, s, "t.00002", "t.00003", "t.00007")
	r := registry(t, s, "t", "t.00004", "t.00007", "out", "", "\x00")
	adopt(t, r, "t.00006", "t.00003")
	reserves(t, s, r, "t.00001", 1)
	reserves(t, s, r, "t.00005", 2)
	reserves(t, s, r, "t.00008", 1)
	reserves(t, s, r, "t.00009", 1)
	reserves(t, s, r, "t.00010", 1)
	names(t, r, "t.00006", "t.00003")
	want(t, "made", s.Stats().Made, 0)
	adopt(t, r, "t.00011", "t.00012")
	want(t, "Release", r.Release("t.00012"), true)
	reserves(t, s, r, "t.00012", 1)
	want(t, "Release", r.Release("t.00011"), true)
	reserves(t, s, r, "t.00013", 1)
}

// P11.2: two registries do not know of each other, nor do prefixes of which one begins the other.
func TestReserveApart(t *testing.T) {
	s := system(t, api.FsConfig{})
	put(t, s, "t.00001.00001")
	a, b, c := registry(t, s, "t"), registry(t, s, "t"), registry(t, s, "t.00001")
	reserves(t, s, a, "t.00001", 1)
	reserves(t, s, b, "t.00001", 1)
	reserves(t, s, c, "t.00001.00002", 2)
	put(t, s, "t.00002")
	reserves(t, s, a, "t.00003", 2)
	want(t, "Remove", s.Remove("t.00002"), api.OK)
	reserves(t, s, b, "t.00002", 1)
}

// P11.2: a Stat that is refused uses no number up; those that were passed over stay passed over.
func TestReserveRefused(t *testing.T) {
	s := system(t, api.FsConfig{Faults: []api.Fault{{Op: api.OpStat, Nth: 1}, {Op: api.OpStat, Nth: 3}, {Op: api.OpStat, Nth: 6}}, Power: 9, Capacity: 9, Files: 9, Handles: 9})
	put(t, s, "t.00001", "t.00004")
	r := registry(t, s, "t", "t.00002")
	reservesNone(t, s, r, api.ErrIO, 1)
	reservesNone(t, s, r, api.ErrIO, 2)
	want(t, "Remove", s.Remove("t.00001"), api.OK)
	put(t, s, "t.00003")
	reservesNone(t, s, r, api.ErrIO, 3)
	reserves(t, s, r, "t.00005", 1)
	reservesNone(t, s, r, api.ErrPower, 1)
	reservesNone(t, s, r, api.ErrPower, 1)
	want(t, "Reboot", s.Reboot(0), api.OK)
	reserves(t, s, r, "t.00006", 1)
}

// P11.2: the last number is given, and then none any more, without a call.
func TestReserveLast(t *testing.T) {
	all := make([]string, 99999)
	for i := range all {
		all[i] = fmt.Sprintf("t.%05d", i+1)
	}
	s := system(t, api.FsConfig{Power: 3, Capacity: 9, Files: 9, Handles: 9})
	avoiding, knowing := registry(t, s, "t", all...), registry(t, s, "t")
	adopt(t, knowing, all...)
	for range 3 {
		reservesNone(t, s, avoiding, api.ErrTemps, 0)
		reservesNone(t, s, knowing, api.ErrTemps, 0)
	}
	want(t, "Release", knowing.Release("t.77777"), true)
	reservesNone(t, s, knowing, api.ErrTemps, 0)
	last := registry(t, s, "t", all[:99998]...)
	reserves(t, s, last, "t.99999", 1)
	reservesNone(t, s, last, api.ErrTemps, 0)
	both := registry(t, s, "t", all[:50000]...)
	adopt(t, both, all[50001:]...)
	reserves(t, s, both, "t.50001", 1)
	// In the dark too.
	reservesNone(t, s, both, api.ErrTemps, 0)
	f, name, e := both.Make()
	if f != nil || name != "" || e != api.ErrTemps {
		t.Errorf("Make: %v, %q, %d", f, name, e)
	}
	made(t, s, "all", api.OpStat, api.OpStat)
}

// P11.2: each number is given, by one Stat.
func TestReserveAll(t *testing.T) {
	s := system(t, api.FsConfig{})
	r := registry(t, s, "t")
	for i := range 99999 {
		name, e := r.Reserve()
		if wanted := fmt.Sprintf("t.%05d", i+1); name != wanted || e != api.OK || s.Stats().Calls != i+1 {
			t.Fatalf("Reserve: %q, %d, want %q", name, e, wanted)
		}
	}
	reservesNone(t, s, r, api.ErrTemps, 0)
}

// P11.2: Create makes a file of any name that isn't in the registry, and not there.
func TestCreate(t *testing.T) {
	s := system(t, api.FsConfig{})
	put(t, s, "there")
	r := registry(t, s, "t", "avoided")
	for _, name := range []string{"t.00009", "avoided", "any", strings.Repeat("n", 64)} {
		f, e := r.Create(name)
		if f == nil || e != api.OK || f.Name() != name {
			t.Fatalf("Create(%q): %d", name, e)
		}
		n, e := f.Write([]byte("x"))
		want(t, "Write", n, 1)
		want(t, "Write", e, api.OK)
	}
	arm(t, s, api.FsConfig{})
	refuses := func(name string, wanted api.Errno, calls ...api.Op) {
		t.Helper()
		before := r.Names()
		f, e := r.Create(name)
		if f != nil || e != wanted {
			t.Errorf("Create(%q): %v, %d, want %d", name, f, e, wanted)
		}
		made(t, s, "Create "+name, calls...)
		names(t, r, before...)
		arm(t, s, refusing(api.OpOpen))
	}
	refuses("any", api.ErrArg)
	refuses("other", api.ErrIO, api.OpOpen)
	arm(t, s, api.FsConfig{})
	refuses("there", api.ErrThere, api.OpOpen)
	arm(t, s, api.FsConfig{})
	refuses("", api.ErrName, api.OpOpen)
	arm(t, s, api.FsConfig{})
	refuses("a\x00", api.ErrName, api.OpOpen)
	arm(t, s, api.FsConfig{})
	refuses(strings.Repeat("n", 65), api.ErrName, api.OpOpen)
	adopt(t, r, "adopted", "there", "")
	refuses("adopted", api.ErrArg)
	refuses("there", api.ErrArg)
	refuses("", api.ErrArg)
	arm(t, s, api.FsConfig{})
	want(t, "Release", r.Release("adopted"), true)
	_, e := r.Create("adopted")
	want(t, "Create", e, api.OK)
	names(t, r, "t.00009", "avoided", "any", strings.Repeat("n", 64), "there", "", "adopted")
}

// P11.2: Make is Reserve and Create; a number that was reserved is used up, whatever Create answers.
func TestMake(t *testing.T) {
	s := system(t, api.FsConfig{})
	put(t, s, "t.00001")
	r := registry(t, s, "t", "t.00002")
	makes := func(wanted string, calls ...api.Op) {
		t.Helper()
		arm(t, s, api.FsConfig{})
		f, name, e := r.Make()
		if f == nil || name != wanted || f.Name() != wanted || e != api.OK {
			t.Errorf("Make: %q, %d, want %q", name, e, wanted)
		}
		made(t, s, "Make", calls...)
	}
	refuses := func(c api.FsConfig, wanted api.Errno, calls ...api.Op) {
		t.Helper()
		arm(t, s, c)
		f, name, e := r.Make()
		if f != nil || name != "" || e != wanted {
			t.Errorf("Make: %v, %q, %d, want %d", f, name, e, wanted)
		}
		made(t, s, "Make", calls...)
	}
	makes("t.00003", api.OpStat, api.OpStat, api.OpOpen)
	refuses(refusing(api.OpStat), api.ErrIO, api.OpStat)
	refuses(refusing(api.OpOpen), api.ErrIO, api.OpStat, api.OpOpen)
	makes("t.00005", api.OpStat, api.OpOpen)
	names(t, r, "t.00003", "t.00005")
	want(t, "files", files(s), `"t.00001"=/0 "t.00003"=/0 "t.00005"=/0 open 2`)
	refuses(api.FsConfig{Power: 2}, api.ErrPower, api.OpStat, api.OpOpen)
	want(t, "Reboot", s.Reboot(0), api.OK)
	makes("t.00007", api.OpStat, api.OpOpen)
}

// P11.2: a system that is full refuses what Make makes.
func TestMakeFull(t *testing.T) {
	s := system(t, api.FsConfig{Capacity: 9, Files: 2, Handles: 1})
	r := registry(t, s, "t")
	f, _, e := r.Make()
	want(t, "Make", e, api.OK)
	_, _, e = r.Make()
	want(t, "Make", e, api.ErrHandles)
	want(t, "Close", f.Close(), api.OK)
	_, _, e = r.Make()
	want(t, "Make", e, api.OK)
	_, _, e = r.Make()
	want(t, "Make", e, api.ErrFull)
	names(t, r, "t.00001", "t.00003")
}

// P11.3, P11.6: Adopt and Release, of any names, without a call; names keep the order in which they came.
func TestAdoptRelease(t *testing.T) {
	s := system(t, api.FsConfig{})
	r := registry(t, s, "t", "b")
	long := strings.Repeat("n", 1000)
	adopt(t, r, "b", "a", "", "\x00", long, "c")
	for _, name := range []string{"b", "a", "", "\x00", long, "c"} {
		want(t, "Adopt "+name, r.Adopt(name), api.ErrArg)
	}
	names(t, r, "b", "a", "", "\x00", long, "c")
	want(t, "Release", r.Release("a"), true)
	want(t, "Release", r.Release("a"), false)
	want(t, "Release", r.Release("other"), false)
	want(t, "Release", r.Release(""), true)
	names(t, r, "b", "\x00", long, "c")
	adopt(t, r, "a")
	want(t, "Release", r.Release("b"), true)
	adopt(t, r, "b")
	names(t, r, "\x00", long, "c", "a", "b")
	made(t, s, "Adopt, Release and Names")
}

// P11.3: Release lets the file stay.
func TestReleaseStays(t *testing.T) {
	s := system(t, api.FsConfig{})
	r := registry(t, s, "t")
	f, name, e := r.Make()
	want(t, "Make", e, api.OK)
	want(t, "Close", f.Close(), api.OK)
	want(t, "Release", r.Release(name), true)
	n, e := r.Sweep()
	want(t, "removed", n, 0)
	want(t, "Sweep", e, api.OK)
	want(t, "files", files(s), `"t.00001"=/0 open 0`)
}

// P11.4: Drop.
func TestDrop(t *testing.T) {
	s := system(t, api.FsConfig{})
	put(t, s, "a", "open", "c", "other")
	r := registry(t, s, "t")
	adopt(t, r, "a", "open", "gone", "c", "")
	drops := func(c api.FsConfig, name string, wanted api.Errno, calls ...api.Op) {
		t.Helper()
		arm(t, s, c)
		want(t, "Drop "+name, r.Drop(name), wanted)
		made(t, s, "Drop "+name, calls...)
	}
	f, _ := s.Open("open", api.ModeRead)
	drops(api.FsConfig{}, "other", api.ErrArg)
	drops(api.FsConfig{}, "a", api.OK, api.OpRemove)
	drops(api.FsConfig{}, "a", api.ErrArg)
	drops(api.FsConfig{}, "gone", api.OK, api.OpRemove)
	drops(api.FsConfig{}, "gone", api.ErrArg)
	drops(api.FsConfig{}, "open", api.ErrBusy, api.OpRemove)
	drops(api.FsConfig{}, "", api.ErrName, api.OpRemove)
	drops(refusing(api.OpRemove), "c", api.ErrIO, api.OpRemove)
	names(t, r, "open", "c", "")
	want(t, "files", files(s), `"c"=/0 "open"=/0 "other"=/0 open 1`)
	want(t, "Close", f.Close(), api.OK)
	drops(api.FsConfig{}, "open", api.OK, api.OpRemove)
	drops(api.FsConfig{Power: 1}, "c", api.ErrPower, api.OpRemove)
	names(t, r, "c", "")
	want(t, "Reboot", s.Reboot(0), api.OK)
	drops(api.FsConfig{}, "c", api.OK, api.OpRemove)
	names(t, r, "")
}

// P11.5: Sweep tries each name, in their order, and tells the first refusal.
func TestSweep(t *testing.T) {
	s := system(t, api.FsConfig{})
	r := registry(t, s, "t")
	n, e := r.Sweep()
	want(t, "removed", n, 0)
	want(t, "Sweep of none", e, api.OK)
	put(t, s, "a", "b", "c", "d", "e")
	adopt(t, r, "d", "gone", "b", "", "c", "a", "e")
	s.Open("a", api.ModeRead)
	arm(t, s, api.FsConfig{Faults: []api.Fault{{Op: api.OpRemove, Nth: 5}}})
	n, e = r.Sweep()
	want(t, "removed", n, 3)
	want(t, "Sweep", e, api.ErrName)
	want(t, "Removes", s.Stats().By[api.OpRemove], 7)
	want(t, "calls", s.Stats().Calls, 7)
	names(t, r, "", "c", "a")
	want(t, "files", files(s), `"a"=/0 "c"=/0 open 1`)
	want(t, "Release", r.Release(""), true)
	n, e = r.Sweep()
	want(t, "removed", n, 1)
	want(t, "Sweep", e, api.ErrBusy)
	names(t, r, "a")
	want(t, "Reboot", s.Reboot(0), api.OK)
	adopt(t, r, "gone", "gone too")
	n, e = r.Sweep()
	want(t, "removed", n, 1)
	want(t, "Sweep", e, api.OK)
	names(t, r)
}

// P11.5: in the dark too each name is tried, and stays.
func TestSweepDark(t *testing.T) {
	s := system(t, api.FsConfig{})
	put(t, s, "a", "b", "c")
	r := registry(t, s, "t")
	adopt(t, r, "c", "b", "a")
	arm(t, s, api.FsConfig{Power: 2})
	n, e := r.Sweep()
	want(t, "removed", n, 1)
	want(t, "Sweep", e, api.ErrPower)
	want(t, "Removes", s.Stats().By[api.OpRemove], 3)
	names(t, r, "b", "a")
	want(t, "files", files(s), `"a"=/0 "b"=/0 open 0`)
}

// twin is a registry and its model, each on a system of its own.
type twin struct {
	s, s2 *simfs.FS
	r     *temps.Registry
	m     *modelRegistry
}

// newTwin makes both, with the same plan and the same files.
func newTwin(t *testing.T, c api.FsConfig, there, avoid []string) *twin {
	t.Helper()
	w := &twin{s: system(t, c), s2: system(t, c)}
	put(t, w.s, there...)
	put(t, w.s2, there...)
	w.r = registry(t, w.s, "t", avoid...)
	w.m = &modelRegistry{s: w.s2, prefix: "t", avoid: avoid, next: 1}
	return w
}

// step takes a step of both, and tells what each of them answers.
func (w *twin) step(what int, name string) (got, wanted string) {
	switch what {
	case 0, 1:
		n, e := w.r.Reserve()
		n2, e2 := w.m.reserve()
		return fmt.Sprint("Reserve ", n, int(e)), fmt.Sprint("Reserve ", n2, int(e2))
	case 2, 3:
		f, e := w.r.Create(name)
		e2 := w.m.create(name)
		if e2 != api.OK {
			name = ""
		}
		return fmt.Sprint("Create ", int(e), f != nil, f.Name()), fmt.Sprint("Create ", int(e2), e2 == api.OK, name)
	case 4, 5:
		f, n, e := w.r.Make()
		n2, e2 := w.m.reserve()
		if e2 == api.OK {
			e2 = w.m.create(n2)
		}
		if e2 != api.OK {
			n2 = ""
		}
		return fmt.Sprint("Make ", n, int(e), f.Name()), fmt.Sprint("Make ", n2, int(e2), n2)
	case 6, 7:
		return fmt.Sprint("Adopt ", int(w.r.Adopt(name))), fmt.Sprint("Adopt ", int(w.m.adopt(name)))
	case 8, 9:
		return fmt.Sprint("Drop ", int(w.r.Drop(name))), fmt.Sprint("Drop ", int(w.m.drop(name)))
	case 10:
		return fmt.Sprint("Release ", w.r.Release(name)), fmt.Sprint("Release ", w.m.release(name))
	case 11:
		n, e := w.r.Sweep()
		n2, e2 := w.m.sweep()
		return fmt.Sprint("Sweep ", n, int(e)), fmt.Sprint("Sweep ", n2, int(e2))
	case 12:
		return fmt.Sprint("Put ", int(w.s.Put(name, nil))), fmt.Sprint("Put ", int(w.s2.Put(name, nil)))
	}
	return fmt.Sprint("Reboot ", int(w.s.Reboot(0))), fmt.Sprint("Reboot ", int(w.s2.Reboot(0)))
}

// P11.1 to P11.6: any walks, held against the model, with calls refused, few files and few handles.
func TestRegistryWalks(t *testing.T) {
	r := rand.New(rand.NewSource(11))
	pool := []string{"t.00001", "t.00002", "t.00003", "t.00004", "t.00005", "t.00007", "t.00010", "a", "b", "", "x\x00"}
	draw := func() []string {
		return slices.DeleteFunc(slices.Clone(pool[:9]), func(string) bool { return r.Intn(3) > 0 })
	}
	for walk := range 3000 {
		c := api.FsConfig{Capacity: 9, Files: 9 + r.Intn(9), Handles: 1 + r.Intn(9)}
		for range r.Intn(9) {
			c.Faults = append(c.Faults, api.Fault{Op: []api.Op{api.OpStat, api.OpOpen, api.OpRemove}[r.Intn(3)], Nth: 1 + r.Intn(12)})
		}
		if r.Intn(4) == 0 {
			c.Power = 1 + r.Intn(40)
		}
		w := newTwin(t, c, draw(), draw())
		for at := range 40 {
			what := r.Intn(13)
			if r.Intn(12) == 0 {
				what = 13
			}
			got, wanted := w.step(what, pool[r.Intn(len(pool))])
			if got != wanted || files(w.s) != files(w.s2) || w.s.Stats() != w.s2.Stats() || !slices.Equal(w.r.Names(), w.m.names) {
				t.Fatalf("walk %d, step %d: %s, want %s; %s, want %s; %q, want %q; %v, want %v", walk, at, got, wanted, files(w.s), files(w.s2), w.r.Names(), w.m.names, w.s.Stats(), w.s2.Stats())
			}
		}
	}
}

// Many names come, go and are swept in a time that does not grow with their square.
func TestManyNames(t *testing.T) {
	const many = 300000
	s := system(t, api.FsConfig{})
	r := registry(t, s, "t")
	for i := range many {
		if r.Adopt(fmt.Sprint(i)) != api.OK {
			t.Fatal("Adopt")
		}
	}
	for i := range many / 2 {
		if !r.Release(fmt.Sprint(2 * i)) {
			t.Fatal("Release")
		}
	}
	l := r.Names()
	for i, name := range l {
		if name != fmt.Sprint(2*i+1) {
			t.Fatalf("name %d is %q", i, name)
		}
	}
	want(t, "names", len(l), many/2)
	n, e := r.Sweep()
	want(t, "removed", n, 0)
	want(t, "Sweep", e, api.OK)
	want(t, "Removes", s.Stats().Calls, many/2)
	names(t, r)
}
