package engine

import (
	"cmp"

	"mill/api"
	"mill/merge"
	"mill/plan"
)

// mergeInputs merges the inputs, each of which is a run.
func (j *job) mergeInputs() api.Errno {
	for range j.o.Files {
		j.runs = append(j.runs, run{weight: 1})
	}
	return j.takeSteps(len(j.runs))
}

// takeSteps merges runs, of which the first ones are those that were not merged, until the last step puts all out.
func (j *job) takeSteps(first int) api.Errno {
	steps, e := stepsOf(j.runs[:first], j.o.Fan)
	if e != api.OK {
		return e
	}
	j.stats.Passes = len(steps)
	last := len(steps) - 1
	for _, s := range steps[j.past.merged:last] {
		if e := j.mergeInto(s); e != api.OK {
			return e
		}
	}
	return j.putOut(func(take taker) api.Errno { return j.merge(steps[last].In, take) })
}

// stepsOf gives the steps that merge runs into one.
func stepsOf(first []run, fan int) ([]api.Step, api.Errno) {
	weights := make([]int, len(first))
	for i, r := range first {
		weights[i] = r.weight
	}
	return plan.Make(weights, fan)
}

// mergeInto takes a step that makes a run. When it stands there is no more need for those of which it was made.
func (j *job) mergeInto(step api.Step) api.Errno {
	s, e := j.beginRun()
	if e != api.OK {
		return e
	}
	if e := j.merge(step.In, s.take); e != api.OK {
		return e
	}
	r, e := j.endRun(s)
	if e != api.OK {
		return e
	}
	j.runs = append(j.runs, r)
	entry := api.Entry{Kind: api.EntryMerge, Name: r.name, Run: step.Out, Records: r.weight, Sum: r.sum, In: step.In}
	if e := j.note(entry); e != api.OK {
		return e
	}
	for _, number := range step.In {
		if name := j.runs[number].name; name != "" {
			if e := j.registry.Drop(name); e != api.OK {
				return e
			}
		}
	}
	return api.OK
}

// merge hands on the records of the runs of these numbers, in order.
func (j *job) merge(in []int, take taker) api.Errno {
	j.stats.Resident = max(j.stats.Resident, len(in))
	var sources []source
	var asked []merge.Source[api.Rec]
	for _, number := range in {
		s, e := j.openRun(number)
		if e != api.OK {
			return e
		}
		sources, asked = append(sources, s), append(asked, s.Next)
	}
	if e := eachMerged(j.ahead, asked, take); e != api.OK {
		return e
	}
	for _, s := range sources {
		if e := s.Close(); e != api.OK {
			return e
		}
	}
	return api.OK
}

// openRun opens the run of this number.
func (j *job) openRun(number int) (source, api.Errno) {
	if r := j.runs[number]; r.name != "" {
		return j.openSpilled(r)
	}
	return j.openInput(number)
}

// ahead is the order of records: that of their lines, and of equal ones that of their numbers.
func (j *job) ahead(a, b api.Rec) int {
	if c := j.order.Compare(a.Line, b.Line); c != 0 {
		return c
	}
	return cmp.Compare(a.Seq, b.Seq)
}

// eachMerged hands on the records of sources, merged.
func eachMerged(order func(a, b api.Rec) int, sources []merge.Source[api.Rec], take taker) api.Errno {
	tree, e := merge.New(order, sources...)
	if e != api.OK {
		return e
	}
	for _, r := range tree.All() {
		if e := take(r); e != api.OK {
			return e
		}
	}
	_, e = tree.Err()
	return e
}
