package engine

import (
	"mill/api"
	"mill/runs"
)

// cutter cuts lines into runs: it gives what has to go to make room for a line, and in the end what is left.
type cutter interface {
	Add(line string) ([]api.Tagged, api.Errno)
	Finish() ([]api.Tagged, api.Errno)
	Held() (int, int)
}

// selection is a generator as a cutter.
type selection struct{ *runs.Gen }

// Finish gives what is left; a generator never refuses it.
func (s selection) Finish() ([]api.Tagged, api.Errno) { return s.Gen.Finish(), api.OK }

// firsts makes the first runs.
type firsts struct {
	job    *job
	cutter cutter
	loads  bool     // whether runs come whole
	now    *spiller // the run that is being written
	gone   int      // how many lines have gone into runs, in all lives
}

// sort sorts the inputs.
func (j *job) sort() api.Errno {
	var rest []api.Tagged
	if j.past.all {
		j.stats.Lines = j.past.lines
	} else {
		f, e := j.newFirsts()
		if e != api.OK {
			return e
		}
		if rest, e = f.cut(); e != api.OK {
			return e
		}
	}
	j.stats.Runs = len(j.runs) - j.past.merged
	if j.stats.Runs == 0 {
		return j.putOut(func(take taker) api.Errno { return eachTagged(rest, take) })
	}
	return j.takeSteps(j.stats.Runs)
}

// newFirsts makes what makes the first runs that are not made yet.
func (j *job) newFirsts() (*firsts, api.Errno) {
	if j.journal == nil && j.o.Parallel == 1 {
		g, e := runs.NewGen(j.order, j.o.Lines, j.o.Bytes)
		return &firsts{job: j, cutter: selection{g}}, e
	}
	l, e := runs.NewLoad(j.order, j.o.Lines, j.o.Bytes, j.o.Parallel, j.fs.Done())
	if e == api.OK {
		e = l.Skip(j.past.lines, len(j.runs))
	}
	return &firsts{job: j, cutter: l, loads: true, gone: j.past.lines}, e
}

// cut cuts the inputs into runs. If they fit into memory and nothing is to be noted there is no need for any: then it gives all lines, sorted.
func (f *firsts) cut() ([]api.Tagged, api.Errno) {
	if e := f.job.eachLine(f.add); e != api.OK {
		return nil, e
	}
	rest, e := f.cutter.Finish()
	if e != api.OK {
		return nil, e
	}
	if f.job.journal == nil && f.gone == 0 {
		return rest, api.OK
	}
	if e := f.spill(rest); e != api.OK {
		return nil, e
	}
	if e := f.end(); e != api.OK {
		return nil, e
	}
	return nil, f.job.note(api.Entry{Kind: api.EntryAll})
}

// add takes a line, unless it stands in a run already.
func (f *firsts) add(line string) api.Errno {
	stats := &f.job.stats
	if stats.Lines <= f.job.past.lines {
		return api.OK
	}
	out, e := f.cutter.Add(line)
	if e != api.OK {
		return e
	}
	held, _ := f.cutter.Held()
	stats.Resident = max(stats.Resident, held)
	return f.spill(out)
}

// spill writes what has to go into its runs.
func (f *firsts) spill(out []api.Tagged) api.Errno {
	for _, t := range out {
		if e := f.turnTo(t.Run); e != api.OK {
			return e
		}
		if e := f.now.take(t.Rec); e != api.OK {
			return e
		}
	}
	f.gone += len(out)
	if f.loads {
		return f.end()
	}
	return api.OK
}

// turnTo makes the run of this number the one that is being written.
func (f *firsts) turnTo(number int) api.Errno {
	if number != len(f.job.runs) {
		if e := f.end(); e != api.OK {
			return e
		}
	}
	if f.now != nil {
		return api.OK
	}
	s, e := f.job.beginRun()
	f.now = s
	return e
}

// end ends the run that is being written, if there is one.
func (f *firsts) end() api.Errno {
	if f.now == nil {
		return api.OK
	}
	j, number := f.job, len(f.job.runs)
	r, e := j.endRun(f.now)
	if e != api.OK {
		return e
	}
	f.now = nil
	j.runs = append(j.runs, r)
	return j.note(api.Entry{Kind: api.EntryRun, Name: r.name, Run: number, Records: r.weight, Lines: f.gone, Sum: r.sum})
}

// eachTagged hands records on.
func eachTagged(l []api.Tagged, take taker) api.Errno {
	for _, t := range l {
		if e := take(t.Rec); e != api.OK {
			return e
		}
	}
	return api.OK
}
