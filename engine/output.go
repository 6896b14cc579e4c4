package engine

import (
	"mill/api"
	"mill/lineio"
	"mill/simfs"
)

// taker says what becomes of a record.
type taker func(r api.Rec) api.Errno

// singles hands records on, with Unique but for those that are alike to the one that was handed on last.
func (j *job) singles(next taker) taker {
	if !j.o.Unique {
		return next
	}
	some, last := false, ""
	return func(r api.Rec) api.Errno {
		if some && j.order.Keys(last, r.Line) == 0 {
			return api.OK
		}
		some, last = true, r.Line
		return next(r)
	}
}

// putOut makes the output: of the records with which fill fills it.
func (j *job) putOut(fill func(take taker) api.Errno) api.Errno {
	f, temp := j.stdout, ""
	if j.o.HasOutput {
		made, name, e := j.makeTemp()
		if e != api.OK {
			return e
		}
		f, temp = made, name
	}
	w, e := lineio.NewWriter(f, pieceSize, j.sep)
	if e != api.OK {
		return e
	}
	e = fill(j.singles(func(r api.Rec) api.Errno {
		if e := j.look(); e != api.OK {
			return e
		}
		j.stats.Out++
		return w.Put(r.Line)
	}))
	if e == api.OK {
		e = w.Flush()
	}
	if e == api.OK && j.o.HasOutput {
		e = j.install(f, temp)
	}
	j.stands = e == api.OK
	return e
}

// install gives the output that stands in a temporary file its name.
func (j *job) install(f *simfs.File, temp string) api.Errno {
	if e := f.Sync(); e != api.OK {
		return e
	}
	if e := j.close(f); e != api.OK {
		return e
	}
	if e := j.look(); e != api.OK {
		return e
	}
	if e := j.fs.Rename(temp, j.o.Output); e != api.OK {
		return e
	}
	j.registry.Release(temp)
	return api.OK
}
