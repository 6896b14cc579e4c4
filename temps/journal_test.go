package temps_test

import (
	"bytes"
	"fmt"
	"math/rand"
	"slices"
	"strings"
	"testing"

	"mill/api"
	"mill/simfs"
	"mill/temps"
)

const (
	stat     = api.OpStat
	opens    = api.OpOpen
	reads    = api.OpRead
	writes   = api.OpWrite
	syncs    = api.OpSync
	closes   = api.OpClose
	removes  = api.OpRemove
	renaming = api.OpRename
)

// plans gives a plan for each of these calls, which refuses it, and one that turns the power off at it.
func plans(calls []api.Op) (refusals, cuts []api.FsConfig) {
	for i, kind := range calls {
		refusals = append(refusals, api.FsConfig{Faults: []api.Fault{{Op: kind, Nth: by(calls[:i+1]...)[kind]}}})
		cuts = append(cuts, api.FsConfig{Power: i + 1})
	}
	return refusals, cuts
}

// P11.9: what Begin makes, and by which calls.
func TestBegin(t *testing.T) {
	for _, name := range []string{"j", "j.new", "\xff", xs(60)} {
		s := system(t, api.FsConfig{})
		put(t, s, "other")
		j, e := temps.Begin(s, name, 0xFEDCBA9876543210)
		want(t, "Begin", e, api.OK)
		made(t, s, "Begin", stat, opens, writes, syncs)
		want(t, "Remove", s.Remove("other"), api.OK)
		want(t, "files", files(s), fmt.Sprintf("%q=%x/24 open 1", name, bytesOf(job(0xFEDCBA9876543210))))
		same(t, "Entries", j.Entries(), []api.Entry{job(0xFEDCBA9876543210)})
	}
}

// P11.9: each call refused, and the power off at it: what is called then, and what stays.
func TestBeginRefused(t *testing.T) {
	calls := []api.Op{stat, opens, writes, syncs}
	behind := [][]api.Op{nil, nil, {closes, removes}, {closes, removes}}
	left := []string{"open 0", "open 0", `"j"=/0 open 1`, fmt.Sprintf(`"j"=%x/0 open 1`, bytesOf(job(7)))}
	refusals, cuts := plans(calls)
	for i := range calls {
		for k, c := range []api.FsConfig{refusals[i], cuts[i]} {
			s := system(t, c)
			j, e := temps.Begin(s, "j", 7)
			want(t, "no journal", j == nil, true)
			want(t, "Begin", e, []api.Errno{api.ErrIO, api.ErrPower}[k])
			made(t, s, "Begin", append(calls[:i+1:i+1], behind[i]...)...)
			want(t, "files", files(s), []string{"open 0", left[i]}[k])
		}
	}
}

// P11.9: that Close and Remove are refused too changes nothing of the answer, the first refusal.
func TestBeginRefusedTwice(t *testing.T) {
	for i, kind := range []api.Op{writes, syncs} {
		for _, also := range [][]api.Op{{closes}, {removes}, {closes, removes}} {
			c := refusing(append(also, kind)...)
			if kind == writes {
				c.Faults[len(also)].Space = true
			}
			s := system(t, c)
			_, e := temps.Begin(s, "j", 7)
			want(t, "Begin", e, []api.Errno{api.ErrSpace, api.ErrIO}[i])
			made(t, s, "Begin", [][]api.Op{{stat, opens, writes, closes, removes}, {stat, opens, writes, syncs, closes, removes}}[i]...)
			wanted := "open 0"
			if slices.Contains(also, removes) {
				wanted = []string{`"j"=/0 open 0`, fmt.Sprintf(`"j"=%x/0 open 0`, bytesOf(job(7)))}[i]
			}
			want(t, "files", files(s), wanted)
		}
	}
}

// P11.9: files that are there, names that may not be, and a system that is full.
func TestBeginErrors(t *testing.T) {
	begins := func(c api.FsConfig, name string, there []string, wanted api.Errno, calls ...api.Op) {
		t.Helper()
		s := system(t, c)
		put(t, s, there...)
		before := files(s)
		j, e := temps.Begin(s, name, 7)
		want(t, "no journal", j == nil, true)
		want(t, "Begin "+name, e, wanted)
		made(t, s, "Begin", calls...)
		want(t, "files", files(s), before)
	}
	for _, name := range []string{"j", "", "a\x00", xs(65)} {
		j, e := temps.Begin(nil, name, 7)
		want(t, "no journal", j == nil, true)
		want(t, "Begin", e, api.ErrNil)
	}
	begins(api.FsConfig{}, "j", []string{"j"}, api.ErrThere, stat, opens)
	begins(api.FsConfig{}, "j", []string{"j.new"}, api.ErrThere, stat)
	begins(api.FsConfig{}, "j", []string{"j", "j.new"}, api.ErrThere, stat)
	begins(api.FsConfig{}, "", nil, api.ErrName, stat, opens)
	begins(api.FsConfig{}, "a\x00", nil, api.ErrName, stat)
	begins(api.FsConfig{}, xs(61), nil, api.ErrName, stat)
	begins(api.FsConfig{}, xs(65), nil, api.ErrName, stat)
	begins(api.FsConfig{Capacity: 99, Files: 1, Handles: 1}, "j", []string{"x"}, api.ErrFull, stat, opens)
	for room := range 24 {
		begins(api.FsConfig{Capacity: room, Files: 1, Handles: 1}, "j", nil, api.ErrSpace, stat, opens, writes, closes, removes)
	}
	_, e := temps.Begin(system(t, api.FsConfig{Capacity: 24, Files: 1, Handles: 1}), "j", 7)
	want(t, "Begin", e, api.OK)
}

// P11.10: a journal that is whole is taken up by reading alone.
func TestResumeWhole(t *testing.T) {
	l := every()
	l[0].Print = 7
	for many := 1; many <= len(l); many++ {
		s, j, got := resumed(t, bytesOf(l[:many]...))
		same(t, "Resume", got, l[:many])
		made(t, s, "Resume", opens, reads, reads, closes, opens)
		holds(t, s, j, l[:many]...)
		want(t, "open", s.Stats().Open, 1)
		want(t, "Note", j.Note(making("next")), api.OK)
		holds(t, s, j, append(l[:many:many], making("next"))...)
	}
}

// P11.10: it is read in pieces of 4096 bytes, until one brings nothing.
func TestResumeReads(t *testing.T) {
	l := []api.Entry{job(7)}
	for len(bytesOf(l...)) < 10000 {
		l = append(l, making(xs(64)))
	}
	data := bytesOf(l...)
	for _, c := range []struct {
		short []int
		reads int
	}{{nil, (len(data)+4095)/4096 + 1}, {[]int{1}, len(data) + 1}, {[]int{1000}, (len(data)+999)/1000 + 1}, {[]int{4097}, (len(data)+4095)/4096 + 1}} {
		s := system(t, api.FsConfig{Short: c.short})
		want(t, "Put", s.Put("j", data), api.OK)
		_, got, e := temps.Resume(s, "j", 7)
		want(t, "Resume", e, api.OK)
		same(t, "Resume", got, l)
		made(t, s, "Resume", append(slices.Repeat([]api.Op{reads}, c.reads), opens, closes, opens)...)
	}
	// 4096 bytes and not one more, and then nothing.
	exact := []api.Entry{job(7)}
	for len(bytesOf(exact...)) < 4096-160 {
		exact = append(exact, making(xs(64)))
	}
	left := 4096 - len(bytesOf(exact...)) - 2*17
	exact = append(exact, making(xs(left/2)), making(xs(left-left/2)))
	want(t, "bytes", len(bytesOf(exact...)), 4096)
	s, _, got := resumed(t, bytesOf(exact...))
	same(t, "Resume", got, exact)
	made(t, s, "Resume", opens, reads, reads, closes, opens)
}

// P11.10: a journal that is cut, at each place: the whole entries are written anew, and it goes on behind them.
func TestResumeTorn(t *testing.T) {
	l := every()
	l[0].Print = 7
	data := bytesOf(l...)
	for cut := range data {
		_, n, e := modelDecode(data[:cut])
		if e == api.OK && n > 0 {
			continue
		}
		whole, _, _ := modelDecode(data[:cut])
		if len(whole) == 0 {
			whole = l[:1]
		}
		s, j, got := resumed(t, data[:cut])
		same(t, "Resume", got, whole)
		some := slices.Repeat([]api.Op{reads}, min(cut, 1)+1)
		made(t, s, "Resume", append(some, opens, closes, opens, writes, syncs, closes, renaming, opens)...)
		holds(t, s, j, whole...)
		want(t, "names", strings.Join(s.Names(), " "), "j")
		want(t, "open", s.Stats().Open, 1)
		want(t, "Note", j.Note(making("next")), api.OK)
		holds(t, s, j, append(slices.Clip(whole), making("next"))...)
	}
}

// P11.10: a file with .new that was left is written over.
func TestResumeNewThere(t *testing.T) {
	s := system(t, api.FsConfig{})
	torn := append(bytesOf(job(7), making("a")), 0xE5)
	want(t, "Put", s.Put("j", torn), api.OK)
	want(t, "Put", s.Put("j.new", []byte("what was left here is longer than the journal, and of no use to anybody")), api.OK)
	j, l, e := temps.Resume(s, "j", 7)
	want(t, "Resume", e, api.OK)
	same(t, "Resume", l, []api.Entry{job(7), making("a")})
	holds(t, s, j, job(7), making("a"))
	want(t, "names", strings.Join(s.Names(), " "), "j")
	// Where nothing is torn it isn't touched.
	s, j = begun(t, api.FsConfig{})
	want(t, "Close", j.Close(), api.OK)
	put(t, s, "j.new")
	_, _, e = temps.Resume(s, "j", 7)
	want(t, "Resume", e, api.OK)
	want(t, "names", strings.Join(s.Names(), " "), "j j.new")
}

// resumesNone tells that Resume refuses a file of these bytes, by reading alone.
func resumesNone(t *testing.T, what string, data []byte, print uint64, wanted api.Errno) {
	t.Helper()
	s := system(t, api.FsConfig{})
	want(t, "Put", s.Put("j", data), api.OK)
	before := files(s)
	j, l, e := temps.Resume(s, "j", print)
	if j != nil || len(l) != 0 || e != wanted {
		t.Errorf("%s: Resume: %v, %s, %d, want %d", what, j, brief(l), e, wanted)
	}
	made(t, s, what, append(slices.Repeat([]api.Op{reads}, min(len(data), 1)+1), opens, closes)...)
	want(t, what+": files", files(s), before)
}

// P11.10: what is no journal, and that of another job, stays as it is.
func TestResumeOthers(t *testing.T) {
	l := every()
	data := bytesOf(l...)
	for _, print := range []uint64{7, 0, l[0].Print ^ 1, l[0].Print ^ 1<<63, 1<<64 - 1} {
		resumesNone(t, "another job", data, print, api.ErrOther)
		resumesNone(t, "another job, one entry", data[:24], print, api.ErrOther)
		resumesNone(t, "another job, torn", data[:30], print, api.ErrOther)
		resumesNone(t, "another job, torn", data[:len(data)-1], print, api.ErrOther)
	}
	// Another job is told only of a journal.
	resumesNone(t, "another job, spoilt", append(bytes.Clone(data), 0), 7, api.ErrJournal)
	for _, b := range []string{"\x00", "x", "\xE4", "\xE5\x01", "\xE5\x00\x00\x00\x01", "\xE5\x00\x00\x00\x00\x00\x08", "a text that nobody wrote as a journal"} {
		resumesNone(t, "no journal", []byte(b), 7, api.ErrJournal)
	}
	first := bytesOf(job(7))
	for cut := range first {
		if cut < 12 {
			continue
		}
		// Bytes of the fingerprint tell that entry 0 is another's, but not that it is one.
		c := bytes.Clone(first[:cut])
		c[cut-1] ^= 0x80
		resumesNone(t, "torn within another fingerprint", c, 7, api.ErrJournal)
	}
	for bit := range 8 * len(first) {
		c := bytes.Clone(first)
		c[bit/8] ^= 1 << (bit % 8)
		resumesNone(t, "a bit turned", c, 7, api.ErrJournal)
		c = c[:bit/8+1]
		resumesNone(t, "a bit turned, torn", c, 7, api.ErrJournal)
	}
	resumesNone(t, "a first entry of another kind, torn", bytesOf(making("a"))[:12], 7, api.ErrJournal)
	resumesNone(t, "a first entry of another kind", bytesOf(making("a")), 7, api.ErrJournal)
	resumesNone(t, "two jobs", bytesOf(job(7), job(7)), 7, api.ErrJournal)
	resumesNone(t, "bytes behind", append(bytes.Clone(first), 0), 7, api.ErrJournal)
	resumesNone(t, "a number left out", slices.Concat(first, sealed(2, []byte{4})), 7, api.ErrJournal)
}

// P11.10: each call refused, and the power off at it: the first error is the answer, and what was opened is closed.
func TestResumeRefused(t *testing.T) {
	torn := append(bytesOf(job(7), making("a")), 0xE5)
	old, fresh := fmt.Sprintf(`"j"=%x/%d `, torn, len(torn)), fmt.Sprintf("%x/", torn[:len(torn)-1])
	synced := fmt.Sprint(len(torn)-1, " ")
	calls := []api.Op{opens, reads, reads, closes, opens, writes, syncs, closes, renaming, opens}
	behind := [][]api.Op{nil, {closes}, {closes}, nil, nil, {closes}, {closes}, nil, nil, nil}
	left := []string{
		old, old, old, old, old, old + `"j.new"=/0 `, old + `"j.new"=` + fresh + "0 ", old + `"j.new"=` + fresh + synced, old + `"j.new"=` + fresh + synced,
		`"j"=` + fresh + synced,
	}
	open := []int{0, 1, 1, 1, 0, 1, 1, 1, 0, 0}
	refusals, cuts := plans(calls)
	for i := range calls {
		for k, c := range []api.FsConfig{refusals[i], cuts[i]} {
			s := system(t, c)
			want(t, "Put", s.Put("j", torn), api.OK)
			j, l, e := temps.Resume(s, "j", 7)
			want(t, "no journal", j == nil, true)
			want(t, "entries", len(l), 0)
			want(t, "Resume", e, []api.Errno{api.ErrIO, api.ErrPower}[k])
			made(t, s, "Resume", append(calls[:i+1:i+1], behind[i]...)...)
			want(t, "files", files(s), left[i]+fmt.Sprint("open ", k*open[i]))
			// Nothing is lost by that.
			want(t, "Reboot", s.Reboot(0), api.OK)
			_, l, e = temps.Resume(s, "j", 7)
			want(t, "Resume", e, api.OK)
			same(t, "Resume", l, []api.Entry{job(7), making("a")})
		}
	}
}

// P11.10: that a Close is refused too changes nothing of the answer.
func TestResumeRefusedTwice(t *testing.T) {
	for _, c := range []struct {
		faults []api.Fault
		wanted api.Errno
		calls  []api.Op
	}{
		{[]api.Fault{{Op: writes, Nth: 1, Space: true}, {Op: closes, Nth: 2}}, api.ErrSpace, []api.Op{opens, reads, closes, opens, writes, closes}},
		{[]api.Fault{{Op: syncs, Nth: 1}, {Op: closes, Nth: 2}}, api.ErrIO, []api.Op{opens, reads, closes, opens, writes, syncs, closes}},
		{[]api.Fault{{Op: reads, Nth: 1}, {Op: closes, Nth: 1}}, api.ErrIO, []api.Op{opens, reads, closes}},
	} {
		s := system(t, api.FsConfig{Faults: c.faults})
		put(t, s, "j")
		_, _, e := temps.Resume(s, "j", 7)
		want(t, "Resume", e, c.wanted)
		made(t, s, "Resume", c.calls...)
		want(t, "open", s.Stats().Open, 0)
	}
}

// P11.10: files that are not there or open, names that may not be, and a system that is full.
func TestResumeErrors(t *testing.T) {
	for _, name := range []string{"j", "", xs(65)} {
		j, l, e := temps.Resume(nil, name, 7)
		if j != nil || len(l) != 0 || e != api.ErrNil {
			t.Errorf("Resume(nil): %v, %s, %d", j, brief(l), e)
		}
	}
	s := system(t, api.FsConfig{})
	refuses := func(name string, wanted api.Errno, calls ...api.Op) {
		t.Helper()
		arm(t, s, api.FsConfig{})
		_, _, e := temps.Resume(s, name, 7)
		want(t, "Resume "+name, e, wanted)
		made(t, s, "Resume", calls...)
	}
	refuses("j", api.ErrMissing, opens)
	refuses("", api.ErrName, opens)
	refuses("a\x00", api.ErrName, opens)
	refuses(xs(65), api.ErrName, opens)
	put(t, s, xs(61), xs(60))
	refuses(xs(61), api.ErrName, opens, reads, closes, opens)
	refuses(xs(60), api.OK, opens, reads, closes, opens, writes, syncs, closes, renaming, opens)
	refuses(xs(60), api.ErrBusy, opens)
	// A name that has no place for .new behind it is fine, as long as nothing is torn.
	want(t, "Put", s.Put(xs(61), bytesOf(job(7))), api.OK)
	refuses(xs(61), api.OK, opens, reads, reads, closes, opens)
	want(t, "Put", s.Put("read", bytesOf(job(7))), api.OK)
	_, e := s.Open("read", api.ModeRead)
	want(t, "Open", e, api.OK)
	refuses("read", api.ErrBusy, opens, reads, reads, closes, opens)
	s = system(t, api.FsConfig{Capacity: 100, Files: 1, Handles: 1})
	put(t, s, "j")
	refuses("j", api.ErrFull, opens, reads, closes, opens)
	s = system(t, api.FsConfig{Capacity: 23, Files: 2, Handles: 1})
	put(t, s, "j")
	refuses("j", api.ErrSpace, opens, reads, closes, opens, writes, closes)
	want(t, "open", s.Stats().Open, 0)
}

// P11.11: what Note lays down, by which calls.
func TestNote(t *testing.T) {
	s, j := begun(t, api.FsConfig{})
	l := every()
	l[0].Print = 7
	for i, e := range l[1:] {
		want(t, "Note", j.Note(e), api.OK)
		made(t, s, "Note", append(slices.Repeat([]api.Op{writes}, i+1), slices.Repeat([]api.Op{syncs}, i+1)...)...)
		holds(t, s, j, l[:i+2]...)
	}
}

// P11.11: what may not be is refused without a call, and doesn't stand.
func TestNoteBad(t *testing.T) {
	s, j := begun(t, api.FsConfig{})
	want(t, "Note", j.Note(making("a")), api.OK)
	arm(t, s, api.FsConfig{})
	for _, e := range []api.Entry{{}, job(7), job(0), {Kind: 7}, making(""), making(xs(65)), {Kind: api.EntryAll, Lines: 1}, merged("x", 1, 1, 1), run("x", -1, 1, 1, 1), {Kind: api.EntryJob, Name: "x"}} {
		want(t, "Note", j.Note(e), api.ErrJournal)
	}
	made(t, s, "Note")
	holds(t, s, j, job(7), making("a"))
	want(t, "Note", j.Note(making("b")), api.OK)
	holds(t, s, j, job(7), making("a"), making("b"))
}

// P11.11: a refusal of Write or Sync stands, and nothing more is called.
func TestNoteRefused(t *testing.T) {
	for _, c := range []struct {
		plan   api.FsConfig
		wanted api.Errno
		calls  []api.Op
	}{
		{api.FsConfig{Faults: []api.Fault{{Op: writes, Nth: 2}}}, api.ErrIO, []api.Op{writes, syncs, writes}},
		{api.FsConfig{Faults: []api.Fault{{Op: writes, Nth: 2, Space: true}}}, api.ErrSpace, []api.Op{writes, syncs, writes}},
		{api.FsConfig{Faults: []api.Fault{{Op: syncs, Nth: 2}}}, api.ErrIO, []api.Op{writes, syncs, writes, syncs}},
		{api.FsConfig{Power: 3}, api.ErrPower, []api.Op{writes, syncs, writes}},
		{api.FsConfig{Power: 4}, api.ErrPower, []api.Op{writes, syncs, writes, syncs}},
	} {
		s, j := begun(t, c.plan)
		want(t, "Note", j.Note(making("a")), api.OK)
		for _, e := range []api.Entry{making("b"), making("c"), {Kind: api.EntryAll}, {}, job(1)} {
			want(t, "Note", j.Note(e), c.wanted)
			made(t, s, "Note", c.calls...)
			same(t, "Entries", j.Entries(), []api.Entry{job(7), making("a")})
		}
		// It can be closed all the same; and when it is closed, that comes first.
		if c.wanted != api.ErrPower {
			want(t, "Close", j.Close(), api.OK)
			want(t, "open", s.Stats().Open, 0)
		} else {
			want(t, "Close", j.Close(), api.ErrPower)
		}
		want(t, "Note", j.Note(making("b")), api.ErrClosed)
		want(t, "Note", j.Note(api.Entry{}), api.ErrClosed)
		made(t, s, "Close", append(c.calls, closes)...)
	}
}

// P11.11: a system that is full takes a part; the next life goes on behind the last whole entry.
func TestNoteFull(t *testing.T) {
	for room := range 20 {
		s := system(t, api.FsConfig{Capacity: 24 + room, Files: 3, Handles: 3})
		j, e := temps.Begin(s, "j", 7)
		want(t, "Begin", e, api.OK)
		wanted, l := api.ErrSpace, []api.Entry{job(7)}
		if room >= 18 {
			wanted, l = api.OK, append(l, making("a"))
		}
		want(t, "Note", j.Note(making("a")), wanted)
		same(t, "Entries", j.Entries(), l)
		want(t, "Close", j.Close(), api.OK)
		b, _ := s.Look("j")
		want(t, "bytes", len(b), 24+min(room, 18))
	}
}

// P11.12: Close and Finish, whatever went before.
func TestCloseFinish(t *testing.T) {
	s, j := begun(t, api.FsConfig{})
	want(t, "Close", j.Close(), api.OK)
	made(t, s, "Close", closes)
	want(t, "Close", j.Close(), api.ErrClosed)
	want(t, "Note", j.Note(making("a")), api.ErrClosed)
	made(t, s, "Close", closes)
	holds(t, s, j, job(7))
	want(t, "Finish", j.Finish(), api.OK)
	made(t, s, "Finish", closes, removes)
	want(t, "files", files(s), "open 0")
	want(t, "Finish", j.Finish(), api.OK)
	made(t, s, "Finish", closes, removes, removes)
	want(t, "Close", j.Close(), api.ErrClosed)
	same(t, "Entries", j.Entries(), []api.Entry{job(7)})

	s, j = begun(t, api.FsConfig{})
	want(t, "Finish", j.Finish(), api.OK)
	made(t, s, "Finish", closes, removes)
	want(t, "files", files(s), "open 0")
	want(t, "Note", j.Note(making("a")), api.ErrClosed)
	want(t, "Note", j.Note(api.Entry{}), api.ErrClosed)
	want(t, "Close", j.Close(), api.ErrClosed)
	made(t, s, "Finish", closes, removes)
}

// P11.12: Closes and Removes that are refused.
func TestCloseFinishRefused(t *testing.T) {
	s, j := begun(t, refusing(closes))
	want(t, "Close", j.Close(), api.ErrIO)
	want(t, "Close", j.Close(), api.ErrClosed)
	want(t, "Finish", j.Finish(), api.OK)
	made(t, s, "Finish", closes, removes)

	s, j = begun(t, refusing(closes))
	want(t, "Finish", j.Finish(), api.OK)
	made(t, s, "Finish", closes, removes)
	want(t, "files", files(s), "open 0")

	s, j = begun(t, refusing(closes, removes))
	want(t, "Finish", j.Finish(), api.ErrIO)
	want(t, "Close", j.Close(), api.ErrClosed)
	want(t, "Note", j.Note(making("a")), api.ErrClosed)
	want(t, "Finish", j.Finish(), api.OK)
	made(t, s, "Finish", closes, removes, removes)
	want(t, "files", files(s), "open 0")

	s, j = begun(t, api.FsConfig{Power: 1})
	want(t, "Finish", j.Finish(), api.ErrPower)
	made(t, s, "Finish", closes, removes)
	want(t, "Close", j.Close(), api.ErrClosed)
	want(t, "Finish", j.Finish(), api.ErrPower)
	made(t, s, "Finish", closes, removes, removes)
	want(t, "Reboot", s.Reboot(0), api.OK)
	want(t, "Finish", j.Finish(), api.OK)
	want(t, "files", files(s), "open 0")

	// Gone already, behind a refusal that stands, and open elsewhere.
	s, j = begun(t, refusing(writes))
	want(t, "Note", j.Note(making("a")), api.ErrIO)
	want(t, "Finish", j.Finish(), api.OK)
	made(t, s, "Finish", writes, closes, removes)
	s, j = begun(t, api.FsConfig{})
	want(t, "Close", j.Close(), api.OK)
	want(t, "Remove", s.Remove("j"), api.OK)
	want(t, "Finish", j.Finish(), api.OK)
	s, j = begun(t, api.FsConfig{})
	want(t, "Close", j.Close(), api.OK)
	_, e := s.Open("j", api.ModeRead)
	want(t, "Open", e, api.OK)
	want(t, "Finish", j.Finish(), api.ErrBusy)
}

// P11.11, P11.12: a journal that outlives its life is over.
func TestOutlived(t *testing.T) {
	s, j := begun(t, api.FsConfig{})
	want(t, "Reboot", s.Reboot(0), api.OK)
	want(t, "Note", j.Note(making("a")), api.ErrClosed)
	want(t, "Note", j.Note(making("a")), api.ErrClosed)
	made(t, s, "Note", writes)
	want(t, "Close", j.Close(), api.ErrClosed)
	made(t, s, "Close", writes, closes)
	same(t, "Entries", j.Entries(), []api.Entry{job(7)})
}

// P11.14: nil objects and bare ones.
func TestNilObjects(t *testing.T) {
	var r *temps.Registry
	name, e := r.Reserve()
	f, e2 := r.Create("a")
	g, name2, e3 := r.Make()
	n, e4 := r.Sweep()
	want(t, "nil registry", fmt.Sprintln(name, f == nil, g == nil, name2, n, r.Release("a"), len(r.Names())), " true true  0 false 0\n")
	for _, e := range []api.Errno{e, e2, e3, e4, r.Adopt("a"), r.Drop("a")} {
		want(t, "nil registry", e, api.ErrNil)
	}
	var j *temps.Journal
	for _, e := range []api.Errno{j.Note(making("a")), j.Note(api.Entry{}), j.Close(), j.Finish()} {
		want(t, "nil journal", e, api.ErrNil)
	}
	want(t, "nil journal", len(j.Entries()), 0)

	bare := &temps.Registry{}
	bare.Reserve()
	bare.Create("a")
	bare.Make()
	bare.Adopt("a")
	bare.Adopt("b")
	bare.Drop("a")
	bare.Release("a")
	bare.Names()
	bare.Sweep()
	late := &temps.Journal{}
	late.Entries()
	late.Note(making("a"))
	late.Finish()
	(&temps.Journal{}).Close()
	strange, e := temps.New(&simfs.FS{}, "t")
	want(t, "New", e, api.OK)
	strange.Make()
	strange.Sweep()
	temps.Begin(&simfs.FS{}, "j", 1)
	temps.Resume(&simfs.FS{}, "j", 1)
}

// pair is a journal and its model, each on a system of its own.
type pair struct {
	s, s2 *simfs.FS
	j     *temps.Journal
	m     *modelJournal
}

// step takes a step of both, and tells what each of them answers.
func (p *pair) step(r *rand.Rand) (got, wanted string) {
	if p.j != nil && p.m.over && r.Intn(3) > 0 {
		p.j, p.m = nil, nil
	}
	if p.j == nil && r.Intn(3) > 0 || r.Intn(9) == 0 {
		name, print := []string{"j", "k", xs(61), "", "j", "j", "j", "j", "j", "j"}[r.Intn(10)], uint64(r.Intn(12)/11)
		if there := slices.Contains(p.s.Names(), name); there == (r.Intn(9) == 0) {
			j, e := temps.Begin(p.s, name, print)
			m, e2 := modelBegin(p.s2, name, print)
			p.j, p.m = j, m
			return fmt.Sprint("Begin ", j != nil, int(e)), fmt.Sprint("Begin ", m != nil, int(e2))
		}
		j, l, e := temps.Resume(p.s, name, print)
		m, e2 := modelResume(p.s2, name, print)
		p.j, p.m = j, m
		if m == nil {
			return fmt.Sprint("Resume ", j != nil, len(l), int(e)), fmt.Sprint("Resume ", false, 0, int(e2))
		}
		return fmt.Sprintf("Resume %+v %d", l, e), fmt.Sprintf("Resume %+v %d", m.l, e2)
	}
	if p.j == nil || r.Intn(12) == 0 {
		keep := r.Intn(40)
		return fmt.Sprint("Reboot ", int(p.s.Reboot(keep))), fmt.Sprint("Reboot ", int(p.s2.Reboot(keep)))
	}
	switch r.Intn(9) {
	case 0:
		return fmt.Sprint("Close ", int(p.j.Close())), fmt.Sprint("Close ", int(p.m.close()))
	case 1:
		return fmt.Sprint("Finish ", int(p.j.Finish())), fmt.Sprint("Finish ", int(p.m.finish()))
	case 2:
		bad := []api.Entry{{}, job(1), making(""), merged("x", 1, 1, 1, 3, 2)}[r.Intn(4)]
		return fmt.Sprint("Note ", int(p.j.Note(bad))), fmt.Sprint("Note ", int(p.m.note(bad)))
	}
	x := anyEntry(r)
	return fmt.Sprint("Note ", int(p.j.Note(x))), fmt.Sprint("Note ", int(p.m.note(x)))
}

// spoil turns a bit of a file of both, or leaves a beginning of it.
func (p *pair) spoil(r *rand.Rand) {
	names := p.s.Names()
	if len(names) == 0 {
		return
	}
	name := names[r.Intn(len(names))]
	b, _ := p.s.Look(name)
	if len(b) > 0 && r.Intn(2) == 0 {
		b[r.Intn(len(b))] ^= 1 << r.Intn(8)
	} else {
		b = b[:r.Intn(len(b)+1)]
	}
	p.s.Put(name, b)
	p.s2.Put(name, b)
}

// P11.9 to P11.13: any walks, held against the model, with calls refused, the power cut, short reads and little room.
func TestJournalWalks(t *testing.T) {
	r := rand.New(rand.NewSource(13))
	for walk := range 4000 {
		c := api.FsConfig{Capacity: 1 + r.Intn(2000), Files: 1 + r.Intn(4), Handles: 1 + r.Intn(3)}
		p := &pair{s: system(t, c), s2: system(t, c)}
		for at := range 40 {
			if r.Intn(6) == 0 {
				c = api.FsConfig{}
				for range r.Intn(4) {
					c.Faults = append(c.Faults, api.Fault{Op: api.Op(r.Intn(int(api.Ops))), Nth: 1 + r.Intn(4)})
					c.Short = append(c.Short, 1+r.Intn(60))
				}
				if r.Intn(3) == 0 {
					c.Power = 1 + r.Intn(12)
				}
				want(t, "Arm", p.s.Arm(c), p.s2.Arm(c))
			}
			if r.Intn(20) == 0 {
				p.spoil(r)
			}
			got, wanted := p.step(r)
			if got != wanted || files(p.s) != files(p.s2) || p.s.Stats() != p.s2.Stats() {
				t.Fatalf("walk %d, step %d: %s, want %s; %s, want %s; %v, want %v", walk, at, got, wanted, files(p.s), files(p.s2), p.s.Stats(), p.s2.Stats())
			}
			if p.j != nil {
				same(t, "Entries", p.j.Entries(), p.m.l)
			}
		}
	}
}
