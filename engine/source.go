package engine

import (
	"slices"

	"mill/api"
	"mill/lineio"
	"mill/simfs"
)

// source gives records one by one: an input its lines, a spilled run its records.
type source interface {
	Next() (api.Rec, bool, api.Errno)
	Close() api.Errno
}

// input is an input that has been reached.
type input struct {
	job    *job
	number int
	file   *simfs.File    // nil, if it is the standard input
	reader *lineio.Reader // nil, if there is nothing to read
}

// openInput opens the input of this number.
func (j *job) openInput(number int) (source, api.Errno) {
	in := &input{job: j, number: number}
	f, name := j.stdin, j.o.Files[number]
	if name != stdinName {
		opened, e := j.openToRead(name)
		if e != api.OK {
			return nil, j.blame(name, e)
		}
		in.file, f = opened, opened
	} else if slices.Index(j.o.Files, stdinName) < number {
		return in, api.OK
	}
	r, e := lineio.NewReader(f, pieceSize, j.sep)
	if e != api.OK {
		return nil, j.blame(name, e)
	}
	in.reader = r
	return in, api.OK
}

// Next gives the next line.
func (in *input) Next() (api.Rec, bool, api.Errno) {
	if in.reader == nil {
		return api.Rec{}, false, api.OK
	}
	j := in.job
	if e := j.look(); e != api.OK {
		return api.Rec{}, false, e
	}
	line, ok, e := in.reader.Next()
	if e != api.OK || !ok {
		return api.Rec{}, false, j.blame(j.o.Files[in.number], e)
	}
	j.stats.Lines++
	place := in.reader.Lines() - 1
	return api.Rec{Seq: uint64(in.number)<<40 + uint64(place), Line: line}, true, api.OK
}

// Close closes the input, unless it is the standard input.
func (in *input) Close() api.Errno {
	if in.file == nil {
		return api.OK
	}
	return in.job.blame(in.job.o.Files[in.number], in.job.close(in.file))
}

// askInputs asks whether all inputs are there.
func (j *job) askInputs() api.Errno {
	for _, name := range j.o.Files {
		if name == stdinName {
			continue
		}
		if _, e := j.fs.Stat(name); e != api.OK {
			return j.blame(name, e)
		}
	}
	return api.OK
}

// eachLine hands on the lines of all inputs.
func (j *job) eachLine(take func(line string) api.Errno) api.Errno {
	for number := range j.o.Files {
		in, e := j.openInput(number)
		if e != api.OK {
			return e
		}
		if e := eachOf(in, take); e != api.OK {
			return e
		}
		if e := in.Close(); e != api.OK {
			return e
		}
	}
	return api.OK
}

// eachOf hands on the lines of a source.
func eachOf(s source, take func(line string) api.Errno) api.Errno {
	for {
		r, ok, e := s.Next()
		if e != api.OK || !ok {
			return e
		}
		if e := take(r.Line); e != api.OK {
			return e
		}
	}
}
