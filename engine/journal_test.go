package engine_test

import (
	"fmt"
	"slices"
	"strings"
	"testing"

	"mill/api"
	"mill/spill"
)

// recs makes records of words, with these numbers from the first one on.
func recs(first uint64, words string) []api.Rec {
	var l []api.Rec
	for i, line := range strings.Fields(words) {
		l = append(l, api.Rec{Seq: first + uint64(i), Line: line})
	}
	return l
}

// spilt gives the bytes of a run file of records.
func spilt(t *testing.T, l []api.Rec) string {
	t.Helper()
	b, e := spill.Bytes(l, 512, false)
	want(t, "spill.Bytes", e, api.OK)
	return string(b)
}

// infoOf gives what is told of a run file.
func infoOf(t *testing.T, b string) api.RunInfo {
	t.Helper()
	_, info, _, e := spill.Scan([]byte(b))
	want(t, "spill.Scan", e, api.OK)
	return info
}

// making is the entry of a file that is going to be made.
func making(name string) api.Entry { return api.Entry{Kind: api.EntryMake, Name: name} }

// first is the entry of a first run that stands in a file of these bytes.
func first(t *testing.T, name, b string, run, lines int) api.Entry {
	t.Helper()
	info := infoOf(t, b)
	return api.Entry{Kind: api.EntryRun, Name: name, Run: run, Lines: lines, Records: info.Records, Sum: info.Sum}
}

// merged is the entry of a run that was made of others.
func merged(t *testing.T, name, b string, run int, in ...int) api.Entry {
	t.Helper()
	info := infoOf(t, b)
	return api.Entry{Kind: api.EntryMerge, Name: name, Run: run, Records: info.Records, Sum: info.Sum, In: in}
}

var allRead, outputStands = api.Entry{Kind: api.EntryAll}, api.Entry{Kind: api.EntryOutput}

// resumes runs a job whose journal has these entries, on its world's files and these; the world is then that of all of them but the journal.
func (w *world) resumes(t *testing.T, more files, l ...api.Entry) result {
	t.Helper()
	for name, data := range more {
		w.files = w.files.with(name, data)
	}
	with := *w
	with.files = w.files.with("ck", journal(t, *w, l...))
	return with.run(t, api.FsConfig{})
}

// leaves tells that a job has ended so, and which files there are.
func leaves(t *testing.T, what string, r result, e api.Errno, stats api.JobStats, f files) {
	t.Helper()
	want(t, what, r.e, e)
	want(t, what+": stats", r.stats, stats)
	want(t, what+": files", held(r.fs), f.String())
	want(t, what+": left open", r.fs.Stats().Open, 0)
}

// P12.13: where EntryOutput stands, all that the entries name is removed, and the journal; no input is looked at.
func TestOutputStood(t *testing.T) {
	w := world{files: files{"other": "x"}, words: "--checkpoint ck -o out missing"}
	run := spilt(t, recs(0, "a"))
	entries := []api.Entry{making("mill.00001"), first(t, "mill.00001", run, 0, 1), making("y"), allRead, making("gone"), making("y"), making("mill.00007"), outputStands}
	more := files{"mill.00001": "1", "y": "2", "mill.00007": "3", "mill.00002": "not named"}
	left := files{"other": "x", "mill.00002": "not named"}
	leaves(t, "EntryOutput", w.resumes(t, more, entries...), api.OK, api.JobStats{Resumed: true}, left)
	with := w
	with.files = w.files.with("ck", journal(t, w, entries...))
	wantList(t, "calls", with.trace(t), []string{
		"stat", "open ck", "read", "read", "close ck", "open ck",
		"remove mill.00001", "remove y", "remove", "remove mill.00007", "close ck", "remove ck",
	})
	// Whatever these answer.
	for n := 1; n <= 5; n++ {
		r := with.run(t, fault(api.OpRemove, n))
		want(t, "a Remove refused", r.e, api.OK)
		want(t, "stats", r.stats, api.JobStats{Resumed: true})
		want(t, "Removes", r.fs.Stats().By[api.OpRemove], 5)
	}
	leaves(t, "a Close refused", with.run(t, fault(api.OpClose, 2)), api.OK, api.JobStats{Resumed: true}, left)
	for cut := 7; cut <= 12; cut++ {
		r := with.run(t, api.FsConfig{Power: cut})
		want(t, "no power", r.e, api.OK)
		want(t, "stats", r.stats, api.JobStats{Resumed: true})
	}
	// The interrupt is not looked for.
	leaves(t, "interrupted", with.run(t, api.FsConfig{Interrupt: 1}), api.OK, api.JobStats{Resumed: true}, left)
	// EntryOutput alone, and one that something stands behind.
	leaves(t, "alone", w.resumes(t, nil, outputStands), api.OK, api.JobStats{Resumed: true}, w.files)
	// And wherever it stands, whatever stands beside it.
	leaves(t, "beside entries that do not follow on each other", w.resumes(t, nil, allRead, first(t, "gone", run, 7, 0), outputStands, allRead), api.OK, api.JobStats{Resumed: true}, w.files)
	w.files = left
	leaves(t, "not the last", w.resumes(t, files{"y": "2"}, outputStands, making("y")), api.OK, api.JobStats{Resumed: true}, left)
}

// P12.13: without entries beside EntryJob the job begins at its beginning.
func TestNothingNoted(t *testing.T) {
	w := world{files: files{"a": each("c b a")}, words: "--lines=2 --checkpoint ck -o out a"}
	r := w.resumes(t, nil)
	leaves(t, "EntryJob alone", r, api.OK, api.JobStats{Lines: 3, Resident: 2, Runs: 2, Passes: 1, Out: 3, Resumed: true}, w.files.with("out", each("a b c")))
	for _, data := range []string{"", "\xe5\x00", journal(t, w)[:23], journal(t, w) + "\xe5\x00\x00"} {
		torn := w
		torn.files = w.files.with("ck", data)
		r := torn.ok(t)
		leaves(t, "a torn one", r, api.OK, api.JobStats{Lines: 3, Resident: 2, Runs: 2, Passes: 1, Out: 3, Resumed: true}, w.files.with("out", each("a b c")))
	}
}

// P12.13: as many lines as the last EntryRun's Lines says are passed over, and the runs that are there are taken as they are.
func TestPassesOver(t *testing.T) {
	w := world{files: files{"a": each("f e d c"), "b": each("b a")}, words: "--lines=2 --checkpoint ck -o out a b"}
	// Runs that the inputs would not give, so that it shows that they are taken.
	one, two := spilt(t, recs(0, "x y z")), spilt(t, recs(2, "q"))
	left := files{"a": each("f e d c"), "b": each("b a")}
	for _, x := range []struct {
		lines, runs, resident int
		out                   string
		entries               []api.Entry
	}{
		{6, 3, 3, "a b c d x y z", []api.Entry{making("mill.00001"), first(t, "mill.00001", one, 0, 2)}},
		{6, 2, 2, "a x y z", []api.Entry{first(t, "mill.00001", one, 0, 5)}},
		{6, 4, 4, "a b c d q x y z", []api.Entry{first(t, "mill.00001", one, 0, 1), first(t, "mill.00002", two, 1, 2)}},
		{6, 2, 2, "q x y z", []api.Entry{first(t, "mill.00001", one, 0, 1), first(t, "mill.00002", two, 1, 6)}},
		{6, 2, 2, "q x y z", []api.Entry{first(t, "mill.00001", one, 0, 1), first(t, "mill.00002", two, 1, 1000)}},
		{6, 4, 4, "a b c d e f x y z", []api.Entry{first(t, "mill.00001", one, 0, 0)}},
	} {
		w.files = left
		r := w.resumes(t, files{"mill.00001": one, "mill.00002": two}, x.entries...)
		wanted := left.with("out", each(x.out))
		if len(x.entries) < 2 || x.entries[1].Run == 0 {
			// Nobody has said that this is the job's.
			wanted = wanted.with("mill.00002", two)
		}
		stats := api.JobStats{Lines: x.lines, Resident: x.resident, Runs: x.runs, Passes: 1, Out: len(strings.Fields(x.out)), Resumed: true}
		leaves(t, x.out, r, api.OK, stats, wanted)
	}
}

// P12.13: with EntryAll no input is read, only asked for.
func TestAllRead(t *testing.T) {
	w := world{files: files{"a": each("f e d c")}, words: "--batch-size=2 --checkpoint ck -o a a"}
	run := []string{spilt(t, recs(0, "x")), spilt(t, recs(1, "b c")), spilt(t, recs(3, "a b c d")), spilt(t, recs(0, "k l m"))}
	runs := files{"r0": run[0], "r1": run[1], "r2": run[2]}
	firsts := []api.Entry{first(t, "r0", run[0], 0, 1), first(t, "r1", run[1], 1, 3), first(t, "r2", run[2], 2, 70), allRead}
	r := w.resumes(t, runs, firsts...)
	stats := api.JobStats{Lines: 70, Resident: 2, Runs: 3, Passes: 2, Out: 7, Resumed: true}
	leaves(t, "three runs", r, api.OK, stats, files{"a": each("a b b c c d x")})
	// The same, of which the first step is done: r0 and r1 are waste.
	w.files = files{"a": each("f e d c")}
	step := append(slices.Clone(firsts), making("r3"), merged(t, "r3", run[3], 3, 0, 1))
	r = w.resumes(t, runs.with("r3", run[3]), step...)
	leaves(t, "a step is done", r, api.OK, stats, files{"a": each("a b c d k l m")})
	w.files = files{"a": each("f e d c"), "r2": run[2], "r3": run[3], "ck": journal(t, w, step...)}
	wantList(t, "calls", w.trace(t), []string{
		"stat", "open ck", "read", "read", "close ck", "open ck", "remove", "remove", "stat",
		"stat", "write ck", "sync ck", "open new mill.00001", "open r2", "read", "open r3", "read", "read", "read", "close r2", "close r3",
		"write mill.00001", "sync mill.00001", "close mill.00001", "rename mill.00001 to a", "write ck", "sync ck", "remove r2", "remove r3", "close ck", "remove ck",
	})
	// No runs.
	w.files = files{"a": each("f e d c")}
	leaves(t, "no runs", w.resumes(t, nil, allRead), api.OK, api.JobStats{Resumed: true}, files{"a": ""})
	// An input that is not there any more ends the job: all is removed.
	w = world{files: files{}, words: "--batch-size=2 --checkpoint ck -o out gone"}
	leaves(t, "a missing input", w.resumes(t, runs, firsts...), api.ErrMissing, api.JobStats{File: "gone"}, files{})
}

// P12.13: of each name it counts what was said of it last; waste is dropped in the order in which the names were first said.
func TestWaste(t *testing.T) {
	w := world{files: files{"in": each("b a")}, words: "--lines=1 --checkpoint ck -o out in"}
	run := spilt(t, recs(0, "x"))
	entries := []api.Entry{making("z"), making("y"), making("r"), first(t, "r", run, 0, 1), making("x"), making("z"), making("no")}
	more := files{"z": "1", "y": "2", "r": run, "x": "3", "mill.00001": "not said"}
	with := w
	with.files = files{"in": each("b a"), "ck": journal(t, w, entries...)}
	for name, data := range more {
		with.files[name] = data
	}
	wantList(t, "calls", with.trace(t)[:13], []string{
		"stat", "open ck", "read", "read", "close ck", "open ck", "remove z", "remove y", "remove x", "remove", "stat", "open in", "read",
	})
	r := w.resumes(t, more, entries...)
	left := files{"in": each("b a"), "mill.00001": "not said", "out": each("a x")}
	leaves(t, "waste", r, api.OK, api.JobStats{Lines: 2, Resident: 2, Runs: 2, Passes: 1, Out: 2, Resumed: true}, left)

	// What a run had is waste, if it is going to be made once more: then the run is missed.
	w.files = files{"in": each("b a")}
	r = w.resumes(t, more, first(t, "r", run, 0, 1), making("r"))
	left = files{"in": each("b a"), "mill.00001": "not said", "x": "3", "y": "2", "z": "1"}
	leaves(t, "made once more", r, api.ErrMissing, api.JobStats{}, left)
	// And what was waste is not, if a run is said to have it.
	w.files = files{"in": each("b a")}
	r = w.resumes(t, more, making("r"), first(t, "r", run, 0, 1))
	want(t, "made, then finished", r.e, api.OK)
}

// P12.1, P12.13: no name that an entry names is given again, whether its file is there or not.
func TestNamesAreNotGivenAgain(t *testing.T) {
	w := world{files: files{"in": each("b a"), "mill.00004": "there"}, words: "--checkpoint ck -o mill.00006 in"}
	entries := []api.Entry{making("mill.00001"), making("mill.00003"), making("mill.00002")}
	w.files = w.files.with("ck", journal(t, w, entries...)).with("mill.00003", "waste")
	var made []string
	for _, call := range w.trace(t) {
		if name, ok := strings.CutPrefix(call, "open new "); ok {
			made = append(made, name)
		}
	}
	// The run, and the output.
	wantList(t, "names", made, []string{"mill.00005", "mill.00007"})
}

// P12.13: waste that can't be removed ends the job like every other error: all that is said is removed, and the journal.
func TestWasteRefused(t *testing.T) {
	run := spilt(t, recs(0, "x"))
	w := world{files: files{"in": each("b a"), "r": run, "y": "2", "z": "3"}, words: "--lines=1 --checkpoint ck -o out in"}
	entries := []api.Entry{making("y"), first(t, "r", run, 0, 1), making("z")}
	w.files = w.files.with("ck", journal(t, w, entries...))
	leaves(t, "a Remove refused", w.run(t, fault(api.OpRemove, 1)), api.ErrIO, api.JobStats{}, files{"in": each("b a")})
	leaves(t, "the second Remove refused", w.run(t, fault(api.OpRemove, 2)), api.ErrIO, api.JobStats{}, files{"in": each("b a")})
	s := w.system(t, api.FsConfig{})
	f, _ := s.Open("z", api.ModeRead)
	r := w.on(t, s)
	want(t, "waste that is open", r.e, api.ErrBusy)
	f.Close()
	want(t, "files", held(s), files{"in": each("b a"), "z": "3"}.String())
	r = w.run(t, api.FsConfig{Power: 7})
	want(t, "no power", r.e, api.ErrPower)
	want(t, "calls", r.fs.Stats().Calls, 7)
}

// P12.14: a run that isn't there, or isn't what was noted.
func TestReadBack(t *testing.T) {
	run := spilt(t, recs(0, "a b c"))
	noted := first(t, "r", run, 0, 3)
	other := noted
	other.Sum++
	fewer := noted
	fewer.Records--
	for _, x := range []struct {
		what, data string
		e          api.Entry
		wanted     api.Errno
	}{
		{"what was noted", run, noted, api.OK},
		{"the same in other blocks", string(must(spill.Bytes(recs(0, "a b c"), 2, true))), noted, api.OK},
		{"another sum", run, other, api.ErrSpoilt},
		{"another number of records", run, fewer, api.ErrSpoilt},
		{"another line", spilt(t, recs(0, "a b d")), noted, api.ErrSpoilt},
		{"another number", spilt(t, recs(1, "a b c")), noted, api.ErrSpoilt},
		{"a record too many", spilt(t, recs(0, "a b c d")), noted, api.ErrSpoilt},
		{"a record too few", spilt(t, recs(0, "a b")), noted, api.ErrSpoilt},
		{"no record", spilt(t, nil), noted, api.ErrSpoilt},
		{"its end cut off", run[:len(run)-1], noted, api.ErrTorn},
		{"no bytes", "", noted, api.ErrTorn},
		{"a byte more", run + "x", noted, api.ErrSpoilt},
		{"no run file", "RUM" + run[3:], noted, api.ErrSpill},
	} {
		w := world{files: files{"in": each("c b a")}, words: "--checkpoint ck -o out in"}
		wanted, stats := files{"in": each("c b a")}, api.JobStats{}
		if x.wanted == api.OK {
			wanted = wanted.with("out", each("a b c"))
			stats = api.JobStats{Lines: 3, Resident: 1, Runs: 1, Passes: 1, Out: 3, Resumed: true}
		}
		r := w.resumes(t, files{"r": x.data}, x.e, allRead)
		leaves(t, x.what, r, x.wanted, stats, wanted)
	}
	// One of a step that is not the last, and one that a step has made.
	w := world{files: files{"in": each("c b a")}, words: "--batch-size=2 --checkpoint ck -o out in"}
	entries := []api.Entry{noted, noted, noted, allRead}
	for i, name := range []string{"r0", "r1", "r2"} {
		entries[i].Name, entries[i].Run = name, i
	}
	r := w.resumes(t, files{"r0": run, "r2": run}, entries...)
	leaves(t, "a missing run", r, api.ErrMissing, api.JobStats{}, files{"in": each("c b a")})
	w.files = files{"in": each("c b a")}
	made := merged(t, "r3", run, 3, 0, 1)
	made.Sum--
	r = w.resumes(t, files{"r2": run, "r3": run}, append(slices.Clone(entries), made)...)
	leaves(t, "a spoilt run of a step", r, api.ErrSpoilt, api.JobStats{}, files{"in": each("c b a")})
}

// must gives what was answered without an error.
func must(b []byte, e api.Errno) []byte {
	if e != api.OK {
		panic(e)
	}
	return b
}

// P12.14: a run of which any byte was changed between two lives is told.
func TestTurnedRun(t *testing.T) {
	run := spilt(t, recs(0, "a b c"))
	w := world{files: files{"in": each("c b a"), "r": run}, words: "--checkpoint ck -o out in"}
	w.files = w.files.with("ck", journal(t, w, first(t, "r", run, 0, 3), allRead))
	for at := range len(run) {
		s := w.system(t, api.FsConfig{})
		b := []byte(run)
		b[at] ^= 4
		want(t, "Put", s.Put("r", b), api.OK)
		r := w.on(t, s)
		want(t, fmt.Sprintf("byte %d turned: an error", at), slices.Contains([]api.Errno{api.ErrSpoilt, api.ErrTorn, api.ErrSpill}, r.e), true)
		leaves(t, fmt.Sprintf("byte %d turned", at), r, r.e, api.JobStats{}, files{"in": each("c b a")})
	}
}

// P12.2, P12.12: a journal that is not this job's, or whose taking up is refused, stays as it is; so does all else.
func TestNotThisJobs(t *testing.T) {
	w := world{files: files{"a": "x\n", "mill.00001": "y"}, words: "--checkpoint ck -o out a"}
	other := w
	other.words = "-r " + w.words
	good := journal(t, w, making("mill.00001"))
	for data, e := range map[string]api.Errno{
		"\x00": api.ErrJournal, "no journal": api.ErrJournal, good + "\x00": api.ErrJournal, good + good: api.ErrJournal, journal(t, other): api.ErrOther, journal(t, other, making("mill.00001")): api.ErrOther, strings.Repeat("x", 9000): api.ErrJournal,
	} {
		with := w
		with.files = w.files.with("ck", data)
		with.fails(t, api.FsConfig{}, e, "")
	}
	with := w
	with.files = w.files.with("ck", good)
	for _, plan := range []api.FsConfig{fault(api.OpStat, 1), fault(api.OpOpen, 1), fault(api.OpRead, 1), fault(api.OpRead, 2), fault(api.OpClose, 1), fault(api.OpOpen, 2)} {
		with.fails(t, plan, api.ErrIO, "")
	}
	// A torn one is written anew: Open of ck.new, Write, Sync, Close, Rename.
	with.files = w.files.with("ck", good[:len(good)-1])
	for _, plan := range []api.FsConfig{fault(api.OpOpen, 2), fault(api.OpWrite, 1), fault(api.OpSync, 1), fault(api.OpClose, 2), fault(api.OpRename, 1)} {
		r := with.run(t, plan)
		want(t, "a torn journal", r.e, api.ErrIO)
		want(t, "stats", r.stats, api.JobStats{})
		data, _ := r.fs.Look("ck")
		want(t, "the journal", string(data), with.files["ck"])
		_, is := r.fs.Look("mill.00001")
		want(t, "the file that it names is there", is, true)
		want(t, "left open", r.fs.Stats().Open, 0)
	}
	// Begin: somebody's ck.new.
	with.files = w.files.with("ck.new", "z")
	with.fails(t, api.FsConfig{}, api.ErrThere, "")
}

// Entries that do not follow on each other as those of a job do: no call panics, nothing is removed, and the journal stays.
func TestOddJournals(t *testing.T) {
	run := spilt(t, recs(0, "a"))
	r := func(name string, n int) api.Entry { return first(t, name, run, n, n+1) }
	m := func(name string, n int, in ...int) api.Entry { return merged(t, name, run, n, in...) }
	huge := r("r0", 0)
	huge.Records = 1 << 40
	for what, l := range map[string][]api.Entry{
		"a run that is not the next":   {r("r0", 1)},
		"a run twice":                  {r("r0", 0), r("r0", 0)},
		"a run left out":               {r("r0", 0), r("r1", 2)},
		"a run behind EntryAll":        {r("r0", 0), allRead, r("r1", 1)},
		"EntryAll twice":               {r("r0", 0), allRead, allRead},
		"a merge ahead of EntryAll":    {r("r0", 0), r("r1", 1), r("r2", 2), m("r3", 3, 0, 1), allRead},
		"a merge of no runs":           {allRead, m("r3", 0, 0, 1)},
		"the merge of the last step":   {r("r0", 0), r("r1", 1), r("r2", 2), allRead, m("r3", 3, 0, 1), m("r4", 4, 2, 3)},
		"a merge of one run":           {r("r0", 0), allRead, m("r1", 1, 0)},
		"a merge of others":            {r("r0", 0), r("r1", 1), r("r2", 2), allRead, m("r3", 3, 0, 2)},
		"a merge of too many":          {r("r0", 0), r("r1", 1), r("r2", 2), allRead, m("r3", 3, 0, 1, 2)},
		"a merge into another":         {r("r0", 0), r("r1", 1), r("r2", 2), allRead, m("r3", 4, 0, 1)},
		"a merge of what is not there": {r("r0", 0), r("r1", 1), r("r2", 2), allRead, m("r3", 3, 100, 131071)},
		"a run of too many records":    {huge, r("r1", 1), r("r2", 2), allRead, m("r3", 3, 0, 1)},
	} {
		w := world{files: files{"a": each("c b a"), "r0": run, "r1": run, "r2": run, "r3": run}, words: "--batch-size=2 --checkpoint ck -o out a"}
		w.files = w.files.with("ck", journal(t, w, append([]api.Entry{making("a"), making("r0")}, l...)...))
		got := w.run(t, api.FsConfig{})
		want(t, what, got.e, api.ErrJournal)
		want(t, what+": stats", got.stats, api.JobStats{})
		w.unchanged(t, what, got.fs)
	}
	w := world{files: files{"a": each("c b a"), "r0": run}, words: "--checkpoint ck -o out a"}
	got := w.resumes(t, nil, huge, allRead)
	leaves(t, "a weight that may not be", got, api.ErrSizes, api.JobStats{}, files{"a": each("c b a")})
}

// P12.12: if the job ends with an error other than ErrPower its temporary files and its journal are removed, in whichever life.
func TestErrorOfALaterLife(t *testing.T) {
	w := world{files: files{"a": each("d b d a c"), "b": each("a e")}, words: "--checkpoint ck -o a --lines=2 --batch-size=2 a b"}
	trace, m := w.trace(t), model(t, w)
	for cut := 7; cut <= len(trace); cut++ {
		for n := 1; ; n++ {
			s := w.system(t, api.FsConfig{Power: cut})
			before := w.on(t, s)
			want(t, "the first life's loss of power", s.Stats().Dark, true)
			want(t, "Reboot", s.Reboot(cut%5), api.OK)
			want(t, "Arm", s.Arm(api.FsConfig{Interrupt: n}), api.OK)
			r := w.on(t, s)
			what := fmt.Sprintf("no power at call %d, then interrupted at call %d", cut, n)
			if r.e == api.OK {
				w.done(t, what, s, r.out, m)
				if s.Stats().Calls < n {
					break
				}
				continue
			}
			want(t, what, r.e, api.ErrStop)
			want(t, what+": stats", r.stats, api.JobStats{})
			if cut > w.stands(t, trace) {
				want(t, what+": the output stood", before.e, api.OK)
				w.done(t, what, s, r.out, m)
			} else {
				w.unchanged(t, what, s)
			}
		}
	}
}

// P12.12: names are reserved one at a time, each just ahead of its EntryMake: with all names but the needed ones taken the job is done.
func TestNoNameTooMany(t *testing.T) {
	w := world{files: files{"a": each("c b a")}, words: "--lines=1 --batch-size=2 --checkpoint ck -o out a"}
	m := model(t, w)
	var l []api.Entry
	for n := 1; n <= 99999-5; n++ {
		l = append(l, making(fmt.Sprintf("mill.%05d", n)))
	}
	w.files = w.files.with("ck", journal(t, w, l...))
	with := w
	with.room = api.FsConfig{Capacity: api.MaxCapacity, Files: api.MaxFiles, Handles: 5}
	r := with.ok(t)
	want(t, "five names for three runs, a step and the output", r.e, api.OK)
	delete(w.files, "ck")
	w.done(t, "all names", r.fs, r.out, m)

	w.files = w.files.with("ck", journal(t, w, append(l, making("mill.99995"))...))
	r = w.run(t, api.FsConfig{})
	leaves(t, "a name too few", r, api.ErrTemps, api.JobStats{}, files{"a": each("c b a")})
}
