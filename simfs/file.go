package simfs

import (
	"bytes"
	"math"

	"mill/api"
)

// File is an open file, or a stream.
type File struct {
	fs     *FS
	life   int // the life it was made in
	name   string
	named  bool // it belongs to a file: no stream
	writes bool // else it reads
	shut   bool
	body   *body // of a stream: its own, in no map
	at     int   // how many bytes have been read
	room   int   // how many bytes a Sink takes
}

// Input makes a stream that gives these bytes.
func (s *FS) Input(data []byte) *File {
	if s == nil {
		return nil
	}
	s.lock.Lock()
	defer s.lock.Unlock()
	return &File{fs: s, life: s.life, body: &body{data: bytes.Clone(data)}}
}

// Sink makes a stream that takes so many bytes; below 0: any.
func (s *FS) Sink(room int) *File {
	if s == nil {
		return nil
	}
	s.lock.Lock()
	defer s.lock.Unlock()
	if room < 0 {
		room = math.MaxInt
	}
	return &File{fs: s, life: s.life, writes: true, body: &body{}, room: room}
}

// Read reads at most most bytes; none at the end.
func (f *File) Read(most int) ([]byte, api.Errno) {
	if !f.made() {
		return nil, api.ErrNil
	}
	s := f.fs
	s.lock.Lock()
	defer s.lock.Unlock()
	if e := s.call(api.OpRead); e != api.OK {
		return nil, e
	}
	if f.closed() {
		return nil, api.ErrClosed
	}
	if f.writes {
		return nil, api.ErrMode
	}
	if most < 1 {
		return nil, api.ErrArg
	}
	if short := s.plan.Short; len(short) > 0 {
		most = min(most, short[(s.stats.By[api.OpRead]-1)%len(short)])
	}
	// A copy of a File may outlive the bytes that it has read, and must not panic for it.
	left := f.body.data[min(f.at, len(f.body.data)):]
	b := bytes.Clone(left[:min(most, len(left))])
	f.at += len(b)
	return b, api.OK
}

// Write writes at the end; how many bytes were taken.
func (f *File) Write(b []byte) (int, api.Errno) {
	if !f.made() {
		return 0, api.ErrNil
	}
	s := f.fs
	s.lock.Lock()
	defer s.lock.Unlock()
	if e := s.call(api.OpWrite); e != api.OK {
		return 0, e
	}
	if f.closed() {
		return 0, api.ErrClosed
	}
	if !f.writes {
		return 0, api.ErrMode
	}
	n := min(len(b), f.free())
	f.body.data = append(f.body.data, b[:n]...)
	if f.named {
		s.stats.Written += n
		s.grow(n)
	}
	if n < len(b) {
		return n, api.ErrSpace
	}
	return n, api.OK
}

// Sync makes what was written safe from a loss of power.
func (f *File) Sync() api.Errno {
	if !f.made() {
		return api.ErrNil
	}
	s := f.fs
	s.lock.Lock()
	defer s.lock.Unlock()
	if e := s.call(api.OpSync); e != api.OK {
		return e
	}
	if f.closed() {
		return api.ErrClosed
	}
	if !f.writes {
		return api.ErrMode
	}
	f.body.synced = len(f.body.data)
	return api.OK
}

// Close closes it.
func (f *File) Close() api.Errno {
	if !f.made() {
		return api.ErrNil
	}
	s := f.fs
	s.lock.Lock()
	defer s.lock.Unlock()
	e := s.call(api.OpClose)
	if e == api.ErrPower {
		return e
	}
	if e == api.OK && f.closed() {
		return api.ErrClosed
	}
	// A Close that the plan refuses closes all the same.
	f.letGo()
	return e
}

// Name tells the name under which it was opened.
func (f *File) Name() string {
	if f == nil {
		return ""
	}
	return f.name
}

// Taken tells what a Sink has taken.
func (f *File) Taken() []byte {
	if !f.made() {
		return nil
	}
	f.fs.lock.Lock()
	defer f.fs.lock.Unlock()
	if f.named || !f.writes {
		return nil
	}
	return bytes.Clone(f.body.data)
}

// made tells whether Open, Input or Sink made it: there is nothing to go through in a nil File or a bare one.
func (f *File) made() bool { return f != nil && f.fs != nil }

func (f *File) closed() bool { return f.shut || f.life != f.fs.life }

// free tells how many bytes it still takes.
func (f *File) free() int {
	if f.named {
		return f.fs.maxBytes - f.fs.stats.Used
	}
	return f.room - len(f.body.data)
}

func (f *File) letGo() {
	if f.closed() {
		return
	}
	f.shut = true
	if !f.named {
		return
	}
	f.body.open--
	f.body.writing = false
	f.fs.stats.Open--
}
