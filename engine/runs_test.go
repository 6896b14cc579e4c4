package engine_test

import (
	"fmt"
	"math/rand"
	"slices"
	"strings"
	"testing"

	"mill/api"
	"mill/spill"
	"mill/temps"
)

// spilling are words of jobs that make runs, of any files a and b.
var spilling = []string{
	"--lines=1", "--lines=1 --batch-size=2", "--lines=2 --batch-size=2 -o out", "--lines=3 --batch-size=3 --pack", "-S12b --parallel=2 --batch-size=2", "--lines=2 -u --batch-size=2", "--lines=2 -u --parallel=3 -o a",
	"--lines=1 -s -k2 --batch-size=3 -T t", "--checkpoint ck -o out", "--checkpoint ck -o out --lines=2 --batch-size=2", "--checkpoint ck -o out -u --lines=2 --batch-size=2 --pack", "--checkpoint ck -o a --lines=3 --parallel=2 -T t",
	"-m --batch-size=2", "-m --batch-size=2 -u -o out", "-m -s -k2 --batch-size=2 --pack",
}

// temporary are the files of a list that are runs, in the order of their names: that in which they were made.
func temporary(w world, f files, output string) []string {
	var l []string
	for name := range f {
		if _, ok := w.files[name]; !ok && !strings.HasPrefix(name, "ck") && name != output {
			l = append(l, name)
		}
	}
	slices.Sort(l)
	return l
}

// P12.6, P12.7, P12.8: what stands in each run's file, and in the journal, when it is finished, is what the model says, to the last byte.
func TestRunFiles(t *testing.T) {
	r := rand.New(rand.NewSource(7))
	for _, words := range spilling {
		for many := range 6 {
			w := world{files: files{"a": text(r, 2*many, '\n'), "b": text(r, many, '\n')}, words: words + " a b b a b"}
			o := options(t, w.words)
			m := model(t, w)
			seen := whole(w.states(t))
			names := temporary(w, seen, o.Output)
			runs := names
			if o.HasOutput {
				// The output's is the last one that is made.
				runs = names[:len(names)-1]
				want(t, w.words+": the output", seen[names[len(names)-1]], m.out)
			}
			want(t, w.words+": how many runs", len(runs), len(m.temps))
			for i, name := range runs {
				b, e := spill.Bytes(m.temps[i], 512, o.Pack)
				want(t, "spill.Bytes", e, api.OK)
				want(t, w.words+": "+name, seen[name], string(b))
			}
			l, _, e := temps.Decode([]byte(seen["ck"]))
			want(t, "Decode", e, api.OK)
			wantEntries(t, w.words, l, m.entries)
		}
	}
}

// wantEntries compares entries.
func wantEntries(t *testing.T, what string, got, wanted []api.Entry) {
	t.Helper()
	var a, b []string
	for _, e := range got {
		a = append(a, fmt.Sprintf("%+v", e))
	}
	for _, e := range wanted {
		b = append(b, fmt.Sprintf("%+v", e))
	}
	wantList(t, what+": entries", a, b)
}

// P12.6, P12.7: the calls of a sort by replacement selection in three runs and two steps, to the standard output.
func TestStepsToStdout(t *testing.T) {
	w := world{files: files{"a": each("c b a")}, words: "--lines=1 --batch-size=2 a"}
	wantList(t, w.words, w.trace(t), []string{
		"stat", "open a", "read",
		"stat", "open new mill.00001", "write mill.00001", "write mill.00001", "write mill.00001", "close mill.00001",
		"stat", "open new mill.00002", "write mill.00002", "read", "close a", "write mill.00002", "write mill.00002", "close mill.00002",
		"stat", "open new mill.00003", "write mill.00003", "write mill.00003", "write mill.00003", "close mill.00003",
		"stat", "open new mill.00004", "write mill.00004", "open mill.00001", "read", "open mill.00002", "read", "read", "read",
		"close mill.00001", "close mill.00002", "write mill.00004", "write mill.00004", "close mill.00004", "remove mill.00001", "remove mill.00002",
		"open mill.00003", "read", "open mill.00004", "read", "read", "read",
		"close mill.00003", "close mill.00004", "write out", "remove mill.00003", "remove mill.00004",
	})
}

// P12.7: of the last step of a sort with -o: the runs are closed, then the output is flushed, synced, closed, renamed; only then the runs are dropped.
func TestLastStep(t *testing.T) {
	for _, words := range []string{"--lines=1", "--lines=1 --parallel=2"} {
		w := world{files: files{"a": each("b a")}, words: words + " -o a a"}
		l := w.trace(t)
		from := slices.Index(l, "open new mill.00003") - 1
		wantList(t, w.words, l[from:], []string{
			"stat", "open new mill.00003", "open mill.00001", "read", "open mill.00002", "read", "read", "read",
			"close mill.00001", "close mill.00002", "write mill.00003", "sync mill.00003", "close mill.00003", "rename mill.00003 to a", "remove mill.00001", "remove mill.00002",
		})
	}
}

// P12.8: of a merge no input is dropped; they are opened when their step begins, and closed when its last record has been written.
func TestMergeCalls(t *testing.T) {
	w := world{files: files{"a": each("a"), "b": each("b"), "c": each("c")}, words: "-m --batch-size=2 b - c", stdin: each("a")}
	wantList(t, w.words, w.trace(t), []string{
		"stat", "stat",
		"stat", "open new mill.00001", "write mill.00001", "open b", "read", "read", "read", "read", "close b", "write mill.00001", "write mill.00001", "close mill.00001",
		"open c", "open mill.00001", "read", "read", "read", "read", "close c", "close mill.00001", "write out", "remove mill.00001",
	})
}

// P12.7, P12.12: the calls of a job with a checkpoint: what is noted and when; runs are synced ahead of it; temporary names are reserved one at a time.
func TestCheckpointCalls(t *testing.T) {
	w := world{files: files{"a": each("c b a")}, words: "--lines=1 --batch-size=2 --checkpoint ck -o out a"}
	note := []string{"write ck", "sync ck"}
	making := func(name string) []string {
		return slices.Concat([]string{"stat"}, note, []string{"open new " + name})
	}
	run := func(name string, more ...string) []string {
		w := "write " + name
		return slices.Concat(making(name), []string{w}, more, []string{w, w, "sync " + name, "close " + name}, note)
	}
	wantList(t, w.words, w.trace(t), slices.Concat(
		[]string{"stat", "stat", "stat", "open new ck", "write ck", "sync ck", "open a", "read"},
		run("mill.00001"), run("mill.00002"), []string{"read", "close a"}, run("mill.00003"),
		note,
		run("mill.00004", "open mill.00001", "read", "open mill.00002", "read", "read", "read", "close mill.00001", "close mill.00002"),
		[]string{"remove mill.00001", "remove mill.00002"},
		making("mill.00005"), []string{"open mill.00003", "read", "open mill.00004", "read", "read", "read", "close mill.00003", "close mill.00004"},
		[]string{"write mill.00005", "sync mill.00005", "close mill.00005", "rename mill.00005 to out"},
		note, []string{"remove mill.00003", "remove mill.00004", "close ck", "remove ck"},
	))
}

// P12.12: with a checkpoint and no lines there are no runs: EntryAll is noted, and the output.
func TestCheckpointOfNothing(t *testing.T) {
	w := world{files: files{"a": ""}, words: "--checkpoint ck -o out a"}
	note := []string{"write ck", "sync ck"}
	wantList(t, w.words, w.trace(t), slices.Concat(
		[]string{"stat", "stat", "stat", "open new ck", "write ck", "sync ck", "open a", "read", "close a"},
		note, []string{"stat"}, note, []string{"open new mill.00001", "sync", "close mill.00001", "rename mill.00001 to out"},
		note, []string{"close ck", "remove ck"},
	))
	r := w.ok(t)
	want(t, "stats", r.stats, api.JobStats{})
	want(t, "files", held(r.fs), files{"a": "", "out": ""}.String())
}

// P12.17: the calls of a sort in memory, and no others: n / 512 Reads, rounded up, and one more; as many Writes.
func TestCallsInMemory(t *testing.T) {
	for n, reads := range map[int]int{0: 1, 1: 2, 511: 2, 512: 2, 513: 3, 1024: 3, 5000: 11} {
		data := strings.Repeat("x\n", n/2)
		if n%2 == 1 {
			data += "\n"
		}
		w := world{files: files{"a": data, "b": data}, stdin: data}
		for words, files := range map[string]int{"a": 1, "a b a": 3, "-": 0, "- -": 0, "a - b -": 2} {
			for _, to := range []string{"", "-o out "} {
				w.words = to + words
				s := w.ok(t).fs.Stats()
				inputs := files + min(1, strings.Count(words, "-"))
				wanted := [api.Ops]int{api.OpOpen: files, api.OpClose: files, api.OpStat: files, api.OpRead: inputs * reads, api.OpWrite: (inputs*n + 511) / 512}
				if to != "" {
					wanted[api.OpOpen]++
					wanted[api.OpClose]++
					wanted[api.OpSync]++
					wanted[api.OpRename]++
					// Of the temporary name.
					wanted[api.OpStat]++
				}
				want(t, fmt.Sprintf("%s of %d bytes", w.words, n), s.By, wanted)
			}
		}
	}
}

// P12.17, W10: how many files are made, synced, opened and closed, and how many are open at once.
func TestBounds(t *testing.T) {
	r := rand.New(rand.NewSource(8))
	for _, words := range spilling {
		for many := range 12 {
			w := world{files: files{"a": text(r, 3*many, '\n'), "b": text(r, many, '\n')}, words: words + " b a b"}
			o := options(t, w.words)
			m := model(t, w)
			s := w.ok(t).fs.Stats()
			fan, more := max(o.Fan, 2), 0
			if o.Fan == 0 {
				fan = 16
			}
			temps, syncs := len(m.temps), 0
			if o.HasOutput {
				temps, syncs = temps+1, 1
			}
			files := temps
			if o.Checkpoint != "" {
				// Each run is synced, and each entry.
				more, files, syncs = 1, files+1, syncs+len(m.temps)+len(m.entries)
			}
			want(t, w.words+": files made", s.Made, files)
			want(t, w.words+": Syncs", s.By[api.OpSync], syncs)
			// Each file that is made, the inputs, and each run once more.
			want(t, w.words+": Opens", s.By[api.OpOpen], files+3+len(m.temps))
			want(t, w.words+": Closes", s.By[api.OpClose], s.By[api.OpOpen])
			want(t, w.words+": Removes", s.By[api.OpRemove], len(m.temps)+more)
			want(t, w.words+": Renames", s.By[api.OpRename], syncs-syncs+temps-len(m.temps))
			want(t, w.words+": Lists", s.By[api.OpList], 0)
			if s.Peak > fan+1+more {
				t.Errorf("%s: %d files are open at once", w.words, s.Peak)
			}
			lines := m.stats.Lines
			if o.Lines > 0 && o.Bytes == 0 && m.stats.Runs > (lines+o.Lines-1)/o.Lines {
				t.Errorf("%s: %d runs of %d lines", w.words, m.stats.Runs, lines)
			}
			written := 0
			for _, l := range m.temps {
				written += len(l)
			}
			if written > lines*(1+m.deepest) {
				t.Errorf("%s: %d lines are written %d times", w.words, lines, written)
			}
		}
	}
}

// P12.17: a job is done with just as many handles as it needs, and no more; with one less it ends.
func TestHandles(t *testing.T) {
	wide := api.FsConfig{Capacity: api.MaxCapacity, Files: api.MaxFiles}
	for words, handles := range map[string]int{
		"a": 1, "-o out a": 1, "-c c": 1, "-": 0, "-o out": 1, "-m --batch-size=2 a b a": 3, "-m a b a": 3, "-m -o out a b a": 4, "-m": 0, "-m a": 1, "-m -o out a": 2, "-m - a": 1, "-m --batch-size=2 a b": 2,
		"--lines=1 --batch-size=2 a": 3, "--lines=1 --batch-size=5 a": 6, "--lines=5 --batch-size=2 a": 2, "--lines=5 --batch-size=2 -o out a": 3, "--lines=5 --batch-size=2 -o out --checkpoint ck a": 4, "-o out --checkpoint ck a": 3,
	} {
		w := world{files: files{"a": each("j i h g f e d c b a"), "b": "x\n", "c": "x\ny\n"}, words: words, room: wide}
		m := model(t, w)
		w.room.Handles = max(1, handles)
		w.comes(t, w.words, w.ok(t), m)
		want(t, words+": open at once", w.ok(t).fs.Stats().Peak, handles)
		if w.room.Handles = handles - 1; handles > 1 {
			r := w.run(t, api.FsConfig{})
			want(t, words+": a handle too few", r.e, api.ErrHandles)
			w.unchanged(t, words, r.fs)
		}
	}
}

// P12.6: nothing is held back: a load stands in its run ahead of the next Read.
func TestLoadsAtOnce(t *testing.T) {
	w := world{files: files{"a": strings.Repeat(strings.Repeat("x", 511)+"\n", 3)}, words: "--lines=1 --parallel=2 a"}
	l := w.trace(t)
	run := func(name string) []string {
		w := "write " + name
		return []string{"stat", "open new " + name, w, w, w, w, "close " + name}
	}
	wantList(t, w.words, l[:2+4+2*7], slices.Concat([]string{"stat", "open a", "read", "read"}, run("mill.00001"), []string{"read"}, run("mill.00002"), []string{"read"}))
}
