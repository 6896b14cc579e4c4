package engine

import (
	"slices"

	"mill/api"
	"mill/temps"
)

// waste is said of the name of a file that no run has.
const waste = -1

// history is what a journal says of the lives of its job.
type history struct {
	output bool       // the output stands
	all    bool       // all lines are in runs
	lines  int        // so many lines are
	steps  []api.Step // of all runs, when all lines are in them
	merged int        // so many of the steps are done
}

// begin makes the calls that come ahead of all others.
func (j *job) begin() api.Errno {
	entries, e := j.resume()
	if e != api.OK {
		return e
	}
	if e := j.newRegistry(entries); e != api.OK || j.past.output {
		return e
	}
	if e := j.dropWaste(entries); e != api.OK {
		return e
	}
	if e := j.askInputs(); e != api.OK {
		return e
	}
	if j.o.Checkpoint == "" || j.journal != nil {
		return api.OK
	}
	j.journal, e = temps.Begin(j.fs, j.o.Checkpoint, j.print)
	return e
}

// resume takes up the journal, if there is one, and gives its entries.
func (j *job) resume() ([]api.Entry, api.Errno) {
	if j.o.Checkpoint == "" {
		return nil, api.OK
	}
	if _, e := j.fs.Stat(j.o.Checkpoint); e == api.ErrMissing {
		return nil, api.OK
	} else if e != api.OK {
		return nil, e
	}
	journal, entries, e := temps.Resume(j.fs, j.o.Checkpoint, j.print)
	if e != api.OK {
		return nil, e
	}
	if !j.recall(entries) {
		journal.Close()
		return nil, api.ErrJournal
	}
	j.journal = journal
	j.stats.Resumed = true
	return entries, api.OK
}

// newRegistry makes the registry, with all names in it that the entries name.
func (j *job) newRegistry(entries []api.Entry) api.Errno {
	var avoid []string
	if j.o.HasOutput {
		avoid = append(avoid, j.o.Output)
	}
	if j.o.Checkpoint != "" {
		avoid = append(avoid, j.o.Checkpoint, j.o.Checkpoint+".new")
	}
	for _, e := range entries {
		avoid = append(avoid, e.Name)
	}
	r, e := temps.New(j.fs, j.o.Temp, avoid...)
	if e != api.OK {
		return e
	}
	j.registry = r
	for _, e := range entries {
		if e.Name != "" {
			// One that is in it already is named once more.
			r.Adopt(e.Name)
		}
	}
	return api.OK
}

// recall goes through the entries of a journal, and tells whether they follow on each other as those of this job do.
func (j *job) recall(entries []api.Entry) bool {
	isOutput := func(e api.Entry) bool { return e.Kind == api.EntryOutput }
	if j.past.output = slices.ContainsFunc(entries, isOutput); j.past.output {
		return true
	}
	for _, e := range entries {
		if !j.recallOne(e) {
			return false
		}
	}
	return true
}

// recallOne takes in what one entry says of runs, if it may come next.
func (j *job) recallOne(e api.Entry) bool {
	p := &j.past
	switch e.Kind {
	case api.EntryRun:
		if p.all || e.Run != len(j.runs) {
			return false
		}
		p.lines = e.Lines
	case api.EntryAll:
		if p.all {
			return false
		}
		p.all = true
		p.steps, _ = stepsOf(j.runs, j.o.Fan)
		return true
	case api.EntryMerge:
		// Of the last step nothing is noted but that the output stands.
		if p.merged >= len(p.steps)-1 {
			return false
		}
		s := p.steps[p.merged]
		if e.Run != s.Out || !slices.Equal(e.In, s.In) {
			return false
		}
		p.merged++
	default:
		return true
	}
	j.runs = append(j.runs, run{name: e.Name, weight: e.Records, sum: e.Sum})
	return true
}

// dropWaste removes the files that earlier lives have left beside the runs that are still to be merged.
func (j *job) dropWaste(entries []api.Entry) api.Errno {
	// Of each name: the number of the run whose file it is, or waste.
	use := map[string]int{}
	for _, e := range entries {
		switch e.Kind {
		case api.EntryMake:
			use[e.Name] = waste
		case api.EntryRun, api.EntryMerge:
			use[e.Name] = e.Run
		}
		for _, number := range e.In {
			use[j.runs[number].name] = waste
		}
	}
	for _, name := range j.registry.Names() {
		if use[name] != waste {
			continue
		}
		if e := j.registry.Drop(name); e != api.OK {
			return e
		}
	}
	return api.OK
}
