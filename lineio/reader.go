package lineio

import (
	"bytes"
	"iter"

	"mill/api"
	"mill/simfs"
)

// Reader reads lines.
type Reader struct {
	file  *simfs.File
	size  int
	sep   byte
	buf   []byte
	from  int // the rest is buf[from:to]
	to    int
	clean int // so many bytes of the rest are known to hold no separator: none is looked at twice
	ended bool
	bare  bool // a line was given that had no separator
	lines int
	err   api.Errno
}

// NewReader makes a reader that reads size bytes at a time.
func NewReader(f *simfs.File, size int, sep byte) (*Reader, api.Errno) {
	if e := refusal(f, size, sep); e != api.OK {
		return nil, e
	}
	return &Reader{file: f, size: size, sep: sep}, api.OK
}

// Next gives the next line, if there is one.
func (r *Reader) Next() (string, bool, api.Errno) {
	if r == nil {
		return "", false, api.ErrNil
	}
	for r.err == api.OK {
		n, found := r.find()
		rest := r.to - r.from
		switch {
		case found && n <= api.MaxLine:
			return r.give(n, 1), true, api.OK
		case rest > api.MaxLine:
			r.err = api.ErrLong
		case r.ended && rest == 0:
			return "", false, api.OK
		case r.ended:
			r.bare = true
			return r.give(rest, 0), true, api.OK
		default:
			r.read()
		}
	}
	return "", false, r.err
}

// All goes through the lines up to the end or the first error.
func (r *Reader) All() iter.Seq[string] {
	return func(yield func(string) bool) {
		// Nobody is there to take a line: none may be lost, and nothing panic.
		if yield == nil {
			return
		}
		for {
			line, ok, _ := r.Next()
			if !ok || !yield(line) {
				return
			}
		}
	}
}

// Whole tells whether every line that was given had its separator.
func (r *Reader) Whole() bool { return r != nil && !r.bare }

// Lines tells how many lines were given.
func (r *Reader) Lines() int {
	if r == nil {
		return 0
	}
	return r.lines
}

// Err tells the first error.
func (r *Reader) Err() api.Errno {
	if r == nil {
		return api.ErrNil
	}
	return r.err
}

// find tells how many bytes of the rest stand ahead of its first separator, if it has one.
func (r *Reader) find() (int, bool) {
	rest := r.buf[r.from:r.to]
	n := bytes.IndexByte(rest[r.clean:], r.sep)
	if n < 0 {
		r.clean = len(rest)
		return 0, false
	}
	return r.clean + n, true
}

// give takes a line of n bytes out of the rest, and the skip bytes of its separator.
func (r *Reader) give(n, skip int) string {
	line := string(r.buf[r.from : r.from+n])
	r.from += n + skip
	r.clean = 0
	r.lines++
	return line
}

// read makes the one Read that the next line waits for.
func (r *Reader) read() {
	b, e := r.file.Read(r.size)
	if e != api.OK {
		r.err = e
		return
	}
	r.ended = len(b) == 0
	if len(b) > len(r.buf)-r.to {
		r.makeRoom(len(b))
	}
	r.to += copy(r.buf[r.to:], b)
}

// makeRoom moves the rest to the buffer's beginning, so that n bytes more find room behind it.
func (r *Reader) makeRoom(n int) {
	rest, room := r.buf[r.from:r.to], r.buf
	// The rest is moved only where it is the smaller half: else Reads of one byte would move a long line again and again.
	if need := len(rest) + n; need > len(room)/2 {
		room = make([]byte, 2*need)
	}
	r.to = copy(room, rest)
	r.from = 0
	r.buf = room
}
