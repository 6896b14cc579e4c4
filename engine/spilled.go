package engine

import (
	"mill/api"
	"mill/simfs"
	"mill/spill"
)

// run is a run that a step may merge.
type run struct {
	name   string // of its file; "" of an input
	weight int    // how many records it has; 1 of an input
	sum    uint32
}

// spiller writes a run.
type spiller struct {
	name   string
	file   *simfs.File
	writer *spill.Writer
	take   taker
}

// beginRun begins a run in a temporary file of its own.
func (j *job) beginRun() (*spiller, api.Errno) {
	f, name, e := j.makeTemp()
	if e != api.OK {
		return nil, e
	}
	w, e := spill.Create(f, pieceSize, j.o.Pack)
	if e != api.OK {
		return nil, e
	}
	return &spiller{name: name, file: f, writer: w, take: j.singles(func(r api.Rec) api.Errno {
		if e := j.look(); e != api.OK {
			return e
		}
		return w.Add(r)
	})}, api.OK
}

// endRun ends a run. If it is going to be noted it must be safe from a loss of power.
func (j *job) endRun(s *spiller) (run, api.Errno) {
	info, e := s.writer.Finish()
	if e == api.OK && j.journal != nil {
		e = s.file.Sync()
	}
	if e != api.OK {
		return run{}, e
	}
	if e := j.close(s.file); e != api.OK {
		return run{}, e
	}
	return run{name: s.name, weight: info.Records, sum: info.Sum}, api.OK
}

// spilled is a run that stands in a temporary file, and is being read.
type spilled struct {
	job    *job
	run    run
	file   *simfs.File
	reader *spill.Reader
}

// openSpilled opens the file of a run.
func (j *job) openSpilled(r run) (source, api.Errno) {
	f, e := j.openToRead(r.name)
	if e != api.OK {
		return nil, e
	}
	reader, e := spill.Open(f, pieceSize)
	if e != api.OK {
		return nil, e
	}
	return &spilled{job: j, run: r, file: f, reader: reader}, api.OK
}

// Next gives the next record. At the end it must have been the run that was written.
func (s *spilled) Next() (api.Rec, bool, api.Errno) {
	if e := s.job.look(); e != api.OK {
		return api.Rec{}, false, e
	}
	r, ok, e := s.reader.Next()
	if e != api.OK || ok {
		return r, ok, e
	}
	info, e := s.reader.Info()
	if e == api.OK && (info.Records != s.run.weight || info.Sum != s.run.sum) {
		e = api.ErrSpoilt
	}
	return api.Rec{}, false, e
}

// Close closes the file.
func (s *spilled) Close() api.Errno { return s.job.close(s.file) }
