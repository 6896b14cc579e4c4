package lineio

import (
	"strings"

	"mill/api"
	"mill/simfs"
)

// Writer writes lines.
type Writer struct {
	file  *simfs.File
	size  int
	sep   byte
	rest  []byte // what was put and not written: between calls less than size bytes
	lines int
	put   int
	taken int
	err   api.Errno
}

// NewWriter makes a writer that writes size bytes at a time.
func NewWriter(f *simfs.File, size int, sep byte) (*Writer, api.Errno) {
	if e := refusal(f, size, sep); e != api.OK {
		return nil, e
	}
	return &Writer{file: f, size: size, sep: sep}, api.OK
}

// Put writes a line and a separator.
func (w *Writer) Put(line string) api.Errno {
	switch {
	case w == nil:
		return api.ErrNil
	case w.err != api.OK:
		return w.err
	case len(line) > api.MaxLine:
		return api.ErrLong
	case strings.IndexByte(line, w.sep) >= 0:
		return api.ErrInner
	}
	w.lines++
	w.put += len(line) + 1
	w.rest = append(w.rest, line...)
	w.rest = append(w.rest, w.sep)
	w.writePieces()
	return w.err
}

// Raw writes bytes as they are.
func (w *Writer) Raw(s string) api.Errno {
	if w == nil {
		return api.ErrNil
	}
	if w.err != api.OK {
		return w.err
	}
	w.put += len(s)
	// Portions: the rest need not grow to the length of a long text.
	for len(s) > 0 && w.err == api.OK {
		n := min(len(s), api.MaxBuf)
		w.rest = append(w.rest, s[:n]...)
		w.writePieces()
		s = s[n:]
	}
	return w.err
}

// Flush writes what waits.
func (w *Writer) Flush() api.Errno {
	if w == nil {
		return api.ErrNil
	}
	if n := len(w.rest); w.err == api.OK && n > 0 {
		w.write(w.rest[:n:n])
		w.rest = w.rest[:0]
	}
	return w.err
}

// Err tells the first error.
func (w *Writer) Err() api.Errno {
	if w == nil {
		return api.ErrNil
	}
	return w.err
}

// Stat tells how many lines and bytes were put, and how many bytes the file has taken.
func (w *Writer) Stat() (int, int, int) {
	if w == nil {
		return 0, 0, 0
	}
	return w.lines, w.put, w.taken
}

// writePieces writes the rest but for its end that is less than a piece.
func (w *Writer) writePieces() {
	done := 0
	for w.err == api.OK && len(w.rest)-done >= w.size {
		w.write(w.rest[done : done+w.size : done+w.size])
		done += w.size
	}
	if done > 0 {
		w.rest = w.rest[:copy(w.rest, w.rest[done:])]
	}
}

func (w *Writer) write(piece []byte) {
	n, e := w.file.Write(piece)
	w.taken += n
	w.err = e
}
