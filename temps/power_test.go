package temps_test

import (
	"slices"
	"testing"

	"mill/api"
	"mill/simfs"
	"mill/temps"
)

// work begins a journal and notes entries until a call is refused; it gives those whose Note, or Begin, was OK.
func work(s *simfs.FS, l []api.Entry) []api.Entry {
	j, e := temps.Begin(s, "j", 7)
	if e != api.OK {
		return nil
	}
	for i, x := range l[1:] {
		if j.Note(x) != api.OK {
			return l[:i+1]
		}
	}
	return l
}

// lived tells that a journal gives all entries that were noted, and at most one more.
func lived(t *testing.T, got, noted, l []api.Entry) {
	t.Helper()
	more := min(len(l), max(1, len(noted)+1))
	if len(got) < len(noted) || len(got) > more {
		t.Errorf("%d entries, of which %d were noted", len(got), len(noted))
		return
	}
	same(t, "entries", got, l[:len(got)])
}

// P11.13: the power is cut at each call, and leaves any bytes; then it is cut at each call of Resume, and leaves any; and then it is taken up.
func TestPower(t *testing.T) {
	l := []api.Entry{job(7), making("t.00001"), run("t.00001", 0, 1, 2, 3), {Kind: api.EntryAll}, making("x"), merged("x", 5, 1, 9, 1, 2), {Kind: api.EntryOutput}}
	longest := len(bytesOf(l[5]))
	for cut := 1; cut <= 4+2*(len(l)-1)+1; cut++ {
		for keep := range longest + 1 {
			first := system(t, api.FsConfig{Power: cut})
			noted := work(first, l)
			want(t, "Reboot", first.Reboot(keep), api.OK)
			left, there := first.Look("j")
			if !there {
				want(t, "no file before it is made", cut <= 2, true)
				continue
			}
			for again := 1; ; again++ {
				s := system(t, api.FsConfig{Power: again})
				want(t, "Put", s.Put("j", left), api.OK)
				_, got, e := temps.Resume(s, "j", 7)
				if e == api.OK {
					lived(t, got, noted, l)
					break
				}
				want(t, "Resume", e, api.ErrPower)
				want(t, "Reboot", s.Reboot(again*7%(longest+20)), api.OK)
				j, got, e := temps.Resume(s, "j", 7)
				want(t, "Resume", e, api.OK)
				lived(t, got, noted, l)
				goesOn(t, s, j, got)
			}
		}
	}
}

// goesOn tells that a journal that was resumed takes further entries, which the next life gives again.
func goesOn(t *testing.T, s *simfs.FS, j *temps.Journal, l []api.Entry) {
	t.Helper()
	more := []api.Entry{making("more"), {Kind: api.EntryAll}}
	for _, x := range more {
		want(t, "Note", j.Note(x), api.OK)
	}
	want(t, "Reboot", s.Reboot(0), api.OK)
	j, got, e := temps.Resume(s, "j", 7)
	want(t, "Resume", e, api.OK)
	same(t, "Resume", got, slices.Concat(l, more))
	want(t, "Finish", j.Finish(), api.OK)
	for _, name := range s.Names() {
		// What a life that was cut off while it wrote anew has left.
		want(t, "what is left", name, "j.new")
	}
}

// P11.13: many lives on one system, each of which notes a few entries before its power is cut, at any call.
func TestManyLives(t *testing.T) {
	for step := 1; step < 40; step++ {
		s := system(t, api.FsConfig{})
		var noted []api.Entry
		for life := range 60 {
			arm(t, s, api.FsConfig{Power: 1 + (life*step+step/3)%17, Short: []int{1 + life%30, 4096}})
			j, got, e := temps.Resume(s, "j", 7)
			if e == api.ErrMissing {
				want(t, "entries", len(noted), 0)
				j, e = temps.Begin(s, "j", 7)
				got = []api.Entry{job(7)}
			}
			if e == api.OK {
				if len(got) < len(noted) || len(got) > len(noted)+1 {
					t.Fatalf("%d entries, of which %d were noted", len(got), len(noted))
				}
				same(t, "Resume", got[:len(noted)], noted)
				noted = got
				for range 20 {
					x := making(xs(1 + life))
					if j.Note(x) != api.OK {
						break
					}
					noted = append(noted, x)
				}
			} else {
				want(t, "refused", e, api.ErrPower)
			}
			want(t, "Reboot", s.Reboot((life*7)%90), api.OK)
		}
	}
}
