package engine_test

import (
	"fmt"
	"hash/fnv"
	"slices"
	"sort"
	"strings"
	"testing"

	"mill/api"
	"mill/collate"
	"mill/keyspec"
	"mill/lineio"
	"mill/plan"
	"mill/runs"
	"mill/simfs"
	"mill/spill"
)

// modelled is what the document says of a world's job: worked out on lists.
type modelled struct {
	out     string // what is put out
	stats   api.JobStats
	e       api.Errno
	temps   [][]api.Rec // the runs, in the order in which their files are made
	entries []api.Entry // of the journal, if there is one
	deepest int         // how many steps a line goes through, at most
}

// model gives it.
func model(t *testing.T, w world) modelled {
	t.Helper()
	o := options(t, w.words)
	order, e := collate.New(o)
	want(t, "collate.New", e, api.OK)
	m := &modeller{t: t, o: o, order: order, sep: '\n'}
	if o.Zero {
		m.sep = 0
	}
	m.read(w)
	switch {
	case o.Check != api.CheckNone:
		m.check()
	case o.Merge:
		m.runs = m.inputs
		m.steps()
	default:
		m.sort()
	}
	return m.modelled
}

// modeller works it out.
type modeller struct {
	modelled
	t      *testing.T
	o      api.Options
	order  *collate.Order
	sep    byte
	inputs [][]api.Rec // numbered as those of a merge are
	runs   [][]api.Rec
	names  int
}

// read reads the inputs.
func (m *modeller) read(w world) {
	stdin := w.stdin
	names := m.o.Files
	if len(names) == 0 {
		names = []string{"-"}
	}
	for i, name := range names {
		data := w.files[name]
		if name == "-" {
			data, stdin = stdin, ""
		}
		var l []api.Rec
		lines, _ := lineio.Split([]byte(data), m.sep)
		for place, line := range lines {
			l = append(l, api.Rec{Seq: uint64(i)<<40 | uint64(place), Line: line})
		}
		m.inputs = append(m.inputs, l)
		m.stats.Lines += len(l)
	}
}

// ahead tells whether a record comes ahead of another.
func (m *modeller) ahead(a, b api.Rec) bool {
	c := m.order.Compare(a.Line, b.Line)
	return c < 0 || c == 0 && a.Seq < b.Seq
}

// single leaves out, with Unique, what is alike to what is ahead of it.
func (m *modeller) single(l []api.Rec) []api.Rec {
	var s []api.Rec
	for _, r := range l {
		if m.o.Unique && len(s) > 0 && m.order.Keys(s[len(s)-1].Line, r.Line) == 0 {
			continue
		}
		s = append(s, r)
	}
	return s
}

// put puts records out.
func (m *modeller) put(l []api.Rec) {
	var b strings.Builder
	for _, r := range m.single(l) {
		b.WriteString(r.Line)
		b.WriteByte(m.sep)
		m.stats.Out++
	}
	m.out = b.String()
}

// check says what check says.
func (m *modeller) check() {
	l := m.inputs[0]
	m.stats.Resident = min(2, len(l))
	for i, r := range l {
		if i == 0 {
			continue
		}
		if m.order.Compare(l[i-1].Line, r.Line) > 0 || m.o.Unique && m.order.Keys(l[i-1].Line, r.Line) >= 0 {
			m.e = api.ErrDisorder
			m.stats.Lines, m.stats.At, m.stats.Line, m.stats.File = i+1, i+1, r.Line, append(m.o.Files, "-")[0]
			return
		}
	}
}

// budget gives the budget in force.
func (m *modeller) budget() (int, int) {
	lines, bytes := m.o.Lines, m.o.Bytes
	if lines == 0 {
		lines = 1048576
	}
	if bytes == 0 {
		bytes = 67108864
	}
	return lines, bytes
}

// cut cuts lines into runs: of each how many lines were read into it, and its records as they go out.
func (m *modeller) cut(l []api.Rec) [][]api.Rec {
	most, room := m.budget()
	var cuts [][]api.Rec
	if m.o.Checkpoint == "" && m.o.Parallel < 2 {
		g, e := runs.NewGen(m.order, most, room)
		want(m.t, "runs.NewGen", e, api.OK)
		var out []api.Tagged
		for _, r := range l {
			more, _ := g.Add(r.Line)
			out = append(out, more...)
			n, _ := g.Held()
			m.stats.Resident = max(m.stats.Resident, n)
		}
		for _, x := range append(out, g.Finish()...) {
			if x.Run == len(cuts) {
				cuts = append(cuts, nil)
			}
			cuts[x.Run] = append(cuts[x.Run], x.Rec)
		}
		if len(out) == 0 && len(cuts) > 1 {
			m.t.Error("more than one run of lines that fit into memory")
		}
		return cuts
	}
	for from := 0; from < len(l); {
		to, cost := from+1, len(l[from].Line)+1
		for to < len(l) && to-from < most && cost+len(l[to].Line)+1 <= room {
			cost += len(l[to].Line) + 1
			to++
		}
		load := slices.Clone(l[from:to])
		sort.Slice(load, func(i, k int) bool { return m.ahead(load[i], load[k]) })
		cuts = append(cuts, load)
		m.stats.Resident = max(m.stats.Resident, len(load))
		from = to
	}
	return cuts
}

// sort says what sort says.
func (m *modeller) sort() {
	all := slices.Concat(m.inputs...)
	for i := range all {
		all[i].Seq = uint64(i)
	}
	cuts := m.cut(all)
	if m.o.Checkpoint != "" {
		print, _ := modelPrint(m.o)
		m.note(api.Entry{Kind: api.EntryJob, Print: print})
	}
	most, room := m.budget()
	cost := 0
	for _, r := range all {
		cost += len(r.Line) + 1
	}
	// One line alone fits always.
	fits := len(all) <= most && cost <= room || len(all) < 2
	if fits && m.o.Checkpoint == "" || len(all) == 0 {
		m.note(api.Entry{Kind: api.EntryAll})
		m.output()
		sort.Slice(all, func(i, k int) bool { return m.ahead(all[i], all[k]) })
		m.put(all)
		return
	}
	gone := 0
	for i, l := range cuts {
		gone += len(l)
		m.make(m.single(l), api.Entry{Kind: api.EntryRun, Run: i, Lines: gone})
	}
	m.stats.Runs = len(cuts)
	m.note(api.Entry{Kind: api.EntryAll})
	m.steps()
}

// output notes that the output is made, and that it stands.
func (m *modeller) output() {
	if !m.o.HasOutput {
		return
	}
	m.note(api.Entry{Kind: api.EntryMake, Name: m.name()})
	m.note(api.Entry{Kind: api.EntryOutput})
}

// name gives the next temporary name, where no file has any of these.
func (m *modeller) name() string {
	m.names++
	prefix := m.o.Temp
	if prefix == "" {
		prefix = "mill"
	}
	return fmt.Sprintf("%s.%05d", prefix, m.names)
}

// note notes an entry, if there is a journal.
func (m *modeller) note(e api.Entry) {
	if m.o.Checkpoint != "" {
		m.entries = append(m.entries, e)
	}
}

// make makes a run, and says of it in e what is to be said of it.
func (m *modeller) make(l []api.Rec, e api.Entry) {
	b, errno := spill.Bytes(l, 512, m.o.Pack)
	want(m.t, "spill.Bytes", errno, api.OK)
	_, info, _, _ := spill.Scan(b)
	e.Name, e.Records, e.Sum = m.name(), info.Records, info.Sum
	m.note(api.Entry{Kind: api.EntryMake, Name: e.Name})
	m.note(e)
	m.runs = append(m.runs, l)
	m.temps = append(m.temps, l)
}

// steps merges the runs.
func (m *modeller) steps() {
	weights := make([]int, len(m.runs))
	for i, l := range m.runs {
		weights[i] = len(l)
		if m.o.Merge {
			weights[i] = 1
		}
	}
	fan := m.o.Fan
	if fan == 0 {
		fan = 16
	}
	steps, e := plan.Make(weights, fan)
	want(m.t, "plan.Make", e, api.OK)
	m.deepest, _ = plan.Depth(weights, fan, steps)
	m.stats.Passes = len(steps)
	for i, s := range steps {
		m.stats.Resident = max(m.stats.Resident, len(s.In))
		var in [][]api.Rec
		for _, r := range s.In {
			in = append(in, m.runs[r])
		}
		l := m.single(m.merge(in))
		if i == len(steps)-1 {
			m.output()
			m.put(l)
			return
		}
		m.make(l, api.Entry{Kind: api.EntryMerge, Run: s.Out, In: s.In})
	}
}

// merge takes the least front again and again.
func (m *modeller) merge(in [][]api.Rec) []api.Rec {
	var l []api.Rec
	for {
		best := -1
		for i, rest := range in {
			if len(rest) > 0 && (best < 0 || m.ahead(rest[0], in[best][0])) {
				best = i
			}
		}
		if best < 0 {
			return l
		}
		l = append(l, in[best][0])
		in[best] = in[best][1:]
	}
}

// modelPrint is Fingerprint, by the library's own function.
func modelPrint(o api.Options) (uint64, api.Errno) {
	words, e := keyspec.Print(o)
	if e != api.OK {
		return 0, api.ErrJob
	}
	h := fnv.New64a()
	for _, word := range words {
		h.Write(append([]byte(word), 0))
	}
	return h.Sum64(), api.OK
}

// outputName tells where the output goes: "" for the standard output.
func (w world) outputName(t *testing.T) string {
	t.Helper()
	return options(t, w.words).Output
}

// comes tells what comes of the world's job: what the model says, and no other file.
func (w world) comes(t *testing.T, what string, r result, m modelled) {
	t.Helper()
	want(t, what, r.e, m.e)
	m.stats.Resumed = r.stats.Resumed
	if r.stats.Resumed {
		// What this call did of it all may be less.
		m.stats.Lines, m.stats.Resident, m.stats.Out = r.stats.Lines, r.stats.Resident, r.stats.Out
	}
	want(t, what+": stats", r.stats, m.stats)
	w.done(t, what, r.fs, r.out, m)
}

// done tells that the output is the model's, and that there is no other file but the world's, none of them open.
func (w world) done(t *testing.T, what string, s *simfs.FS, out string, m modelled) {
	t.Helper()
	wanted := w.files
	if name := w.outputName(t); name != "" {
		wanted = wanted.with(name, m.out)
		m.out = ""
	}
	want(t, what+": files", held(s), wanted.String())
	want(t, what+": put out", out, m.out)
	want(t, what+": left open", s.Stats().Open, 0)
}
