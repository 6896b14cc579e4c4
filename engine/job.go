package engine

import (
	"slices"
	"strings"

	"mill/api"
	"mill/collate"
	"mill/simfs"
	"mill/temps"
)

const (
	stdinName = "-" // the operand that is the standard input
	pieceSize = 512 // of all buffers, and of the blocks of spill files
)

// job is one call's work.
type job struct {
	fs       *simfs.FS
	o        api.Options // in force
	print    uint64
	order    *collate.Order
	sep      byte
	stdin    *simfs.File
	stdout   *simfs.File
	registry *temps.Registry
	journal  *temps.Journal // nil, if nothing is noted
	open     []*simfs.File  // what the job has opened and not closed
	past     history
	runs     []run // by their numbers
	stats    api.JobStats
	stands   bool // the output does
}

// inForce gives options that say all that they leave open.
func inForce(o api.Options) api.Options {
	if o.Lines == 0 {
		o.Lines = api.MaxLines
	}
	if o.Bytes == 0 {
		o.Bytes = api.MaxBytes
	}
	if o.Fan == 0 {
		o.Fan = 16
	}
	if o.Parallel == 0 {
		o.Parallel = 1
	}
	if o.Temp == "" {
		o.Temp = "mill"
	}
	if len(o.Files) == 0 {
		o.Files = []string{stdinName}
	}
	return o
}

// jobOf makes the job of options that may be.
func jobOf(fs *simfs.FS, o api.Options, print uint64, stdin *simfs.File) *job {
	// Layer 4 has taken the options, so layer 5 makes an order of them.
	order, _ := collate.New(o)
	j := &job{fs: fs, o: o, print: print, order: order, sep: '\n', stdin: stdin}
	if o.Zero {
		j.sep = 0
	}
	return j
}

// do does a job's work, and leaves nothing behind, however it ends.
func (j *job) do(work func() api.Errno) (e api.Errno) {
	defer func() { j.end(e) }()
	return work()
}

// run does all kinds of jobs.
func (j *job) run() api.Errno {
	if e := j.begin(); e != api.OK || j.past.output {
		return e
	}
	switch {
	case j.o.Check != api.CheckNone:
		return j.check()
	case j.o.Merge:
		return j.mergeInputs()
	}
	return j.sort()
}

// end removes what the job does not leave, whatever the calls answer. Once the power is off there is no use in any more of them.
func (j *job) end(e api.Errno) {
	if e == api.ErrPower {
		return
	}
	var acts []func() api.Errno
	if j.stands {
		acts = append(acts, func() api.Errno { return j.note(api.Entry{Kind: api.EntryOutput}) })
	}
	for _, f := range j.open {
		acts = append(acts, f.Close)
	}
	for _, name := range j.registry.Names() {
		acts = append(acts, func() api.Errno { return j.registry.Drop(name) })
	}
	// The journal goes last: without it the next life would not know whose the files are.
	if j.journal != nil {
		acts = append(acts, j.journal.Close, j.journal.Finish)
	}
	doWithPower(acts)
}

// doWithPower does one thing after the other, until the power is off. One that panics keeps none of the others from being done.
func doWithPower(acts []func() api.Errno) {
	at := 0
	defer func() {
		// Only a panic leaves the loop ahead of its end.
		if at < len(acts) {
			doWithPower(acts[at+1:])
		}
	}()
	for ; at < len(acts); at++ {
		if acts[at]() == api.ErrPower {
			acts = acts[:at+1]
		}
	}
}

// look looks for the interrupt.
func (j *job) look() api.Errno {
	if j.fs.Stopped() {
		return api.ErrStop
	}
	return api.OK
}

// note notes an entry, if there is a journal.
func (j *job) note(e api.Entry) api.Errno {
	if j.journal == nil {
		return api.OK
	}
	return j.journal.Note(e)
}

// blame says of an error that it is that of an input.
func (j *job) blame(input string, e api.Errno) api.Errno {
	if e != api.OK {
		j.stats.File = strings.Clone(input)
	}
	return e
}

// openToRead opens a file to read.
func (j *job) openToRead(name string) (*simfs.File, api.Errno) {
	f, e := j.fs.Open(name, api.ModeRead)
	if e == api.OK {
		j.open = append(j.open, f)
	}
	return f, e
}

// makeTemp makes a temporary file that nobody can lose: its name is noted ahead of it.
func (j *job) makeTemp() (*simfs.File, string, api.Errno) {
	name, e := j.registry.Reserve()
	if e != api.OK {
		return nil, "", e
	}
	if e := j.note(api.Entry{Kind: api.EntryMake, Name: name}); e != api.OK {
		return nil, "", e
	}
	f, e := j.registry.Create(name)
	if e != api.OK {
		return nil, "", e
	}
	j.open = append(j.open, f)
	return f, name, api.OK
}

// close closes what the job has opened. One whose Close is refused is closed too; of one whose Close panics that is not known, so it is closed once more at the end.
func (j *job) close(f *simfs.File) api.Errno {
	e := f.Close()
	j.open = slices.DeleteFunc(j.open, func(other *simfs.File) bool { return other == f })
	return e
}
