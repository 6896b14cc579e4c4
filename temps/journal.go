package temps

import (
	"bytes"
	"strings"

	"mill/api"
	"mill/simfs"
)

// readSize is how many bytes Resume asks for at a time.
const readSize = 4096

// Journal is a job's journal.
type Journal struct {
	fs   *simfs.FS
	name string
	file *simfs.File
	data []byte // the bytes of the entries that stand
	many int    // how many these are
	shut bool
	err  api.Errno
}

// Begin makes a journal.
func Begin(fs *simfs.FS, name string, print uint64) (j *Journal, e api.Errno) {
	if fs == nil {
		return nil, api.ErrNil
	}
	switch _, e := fs.Stat(name + newSuffix); e {
	case api.ErrMissing:
	case api.OK:
		return nil, api.ErrThere
	default:
		return nil, e
	}
	f, e := fs.Open(name, api.ModeNew)
	if e != api.OK {
		return nil, e
	}
	defer func() {
		// There is none behind a panic either.
		if j == nil {
			f.Close()
			fs.Remove(name)
		}
	}()
	first := jobBytes(print)
	if e := writeSynced(f, first); e != api.OK {
		return nil, e
	}
	return newJournal(fs, name, f, first, 1), api.OK
}

// Resume opens a journal that is there.
func Resume(fs *simfs.FS, name string, print uint64) (*Journal, []api.Entry, api.Errno) {
	if fs == nil {
		return nil, nil, api.ErrNil
	}
	data, e := readWhole(fs, name)
	if e != api.OK {
		return nil, nil, e
	}
	whole, torn, e := wholeEntries(data, print)
	if e != api.OK {
		return nil, nil, e
	}
	if torn {
		if e := writeAnew(fs, name, whole); e != api.OK {
			return nil, nil, e
		}
	}
	f, e := fs.Open(name, api.ModeAppend)
	if e != api.OK {
		return nil, nil, e
	}
	l, _, _ := Decode(whole)
	return newJournal(fs, name, f, whole, len(l)), l, api.OK
}

// Note lays an entry down, synced.
func (j *Journal) Note(e api.Entry) api.Errno {
	switch {
	case j == nil:
		return api.ErrNil
	case j.shut:
		return api.ErrClosed
	case j.err != api.OK:
		return j.err
	case e.Kind == api.EntryJob:
		return api.ErrJournal
	}
	b, refusal := Encode(j.many, e)
	if refusal != api.OK {
		return refusal
	}
	if j.err = writeSynced(j.file, b); j.err != api.OK {
		return j.err
	}
	j.data = append(j.data, b...)
	j.many++
	return api.OK
}

// Entries tells the entries.
func (j *Journal) Entries() []api.Entry {
	if j == nil {
		return nil
	}
	// Out of the bytes, so that they are new each time.
	l, _, _ := Decode(j.data)
	return l
}

// Close closes the journal.
func (j *Journal) Close() api.Errno {
	switch {
	case j == nil:
		return api.ErrNil
	case j.shut:
		return api.ErrClosed
	}
	e := j.file.Close()
	j.shut = true
	return e
}

// Finish takes the journal away.
func (j *Journal) Finish() api.Errno {
	if j == nil {
		return api.ErrNil
	}
	if !j.shut {
		j.Close()
	}
	if e := j.fs.Remove(j.name); e != api.ErrMissing {
		return e
	}
	return api.OK
}

// newJournal makes the open journal of a file that holds so many entries of these bytes.
func newJournal(fs *simfs.FS, name string, f *simfs.File, data []byte, many int) *Journal {
	return &Journal{fs: fs, name: strings.Clone(name), file: f, data: data, many: many}
}

// jobBytes gives the bytes of entry 0 of a job with this fingerprint.
func jobBytes(print uint64) []byte {
	b, _ := Encode(0, api.Entry{Kind: api.EntryJob, Print: print})
	return b
}

// wholeEntries gives the bytes of the whole entries among those of a journal of this job, and whether they stand in its file otherwise than whole.
func wholeEntries(data []byte, print uint64) (whole []byte, torn bool, e api.Errno) {
	l, n, e := Decode(data)
	if e == api.ErrJournal {
		return nil, false, e
	}
	if len(l) == 0 {
		first := jobBytes(print)
		if !bytes.HasPrefix(first, data) {
			return nil, false, api.ErrJournal
		}
		return first, true, api.OK
	}
	if l[0].Print != print {
		return nil, false, api.ErrOther
	}
	return data[:n], e == api.ErrTorn, api.OK
}

// readWhole gives all bytes of a file.
func readWhole(fs *simfs.FS, name string) (data []byte, e api.Errno) {
	f, e := fs.Open(name, api.ModeRead)
	if e != api.OK {
		return nil, e
	}
	defer closeAtEnd(f, &e)
	for {
		b, e := f.Read(readSize)
		if e != api.OK || len(b) == 0 {
			return data, e
		}
		data = append(data, b...)
	}
}

// writeAnew gives a file these bytes and no others, all or none of them, whenever the power is lost.
func writeAnew(fs *simfs.FS, name string, data []byte) api.Errno {
	if e := writeFile(fs, name+newSuffix, data); e != api.OK {
		return e
	}
	return fs.Rename(name+newSuffix, name)
}

// writeFile writes a file of these bytes, synced.
func writeFile(fs *simfs.FS, name string, data []byte) (e api.Errno) {
	f, e := fs.Open(name, api.ModeTrunc)
	if e != api.OK {
		return e
	}
	defer closeAtEnd(f, &e)
	return writeSynced(f, data)
}

// writeSynced lays bytes down by one Write, and syncs them.
func writeSynced(f *simfs.File, b []byte) api.Errno {
	if _, e := f.Write(b); e != api.OK {
		return e
	}
	return f.Sync()
}

// closeAtEnd closes a file at the end of the work with it. If that is refused, it is the error of the work that had none.
func closeAtEnd(f *simfs.File, e *api.Errno) {
	if refusal := f.Close(); *e == api.OK {
		*e = refusal
	}
}
