package simfs

import (
	"bytes"
	"slices"
	"strings"

	"mill/api"
)

// body is what a file or a stream holds.
type body struct {
	data    []byte
	synced  int
	open    int
	writing bool // the one File that is open writes
}

// reboot leaves what a loss of power leaves.
func (b *body) reboot(keep int) {
	// Not synced + keep: that sum may wrap round.
	b.data = b.data[:b.synced+min(keep, len(b.data)-b.synced)]
	b.synced = len(b.data)
	b.open, b.writing = 0, false
}

// Open opens a file.
func (s *FS) Open(name string, mode api.Mode) (*File, api.Errno) {
	if s == nil {
		return nil, api.ErrNil
	}
	s.lock.Lock()
	defer s.lock.Unlock()
	if e := s.call(api.OpOpen); e != api.OK {
		return nil, e
	}
	if e := s.refuseOpen(name, mode); e != api.OK {
		return nil, e
	}
	b := s.files[name]
	if b == nil {
		b = &body{}
		s.files[name] = b
		s.stats.Made++
	}
	if mode == api.ModeTrunc {
		s.grow(-len(b.data))
		b.data, b.synced = nil, 0
	}
	b.open++
	b.writing = mode != api.ModeRead
	s.stats.Open++
	s.stats.Peak = max(s.stats.Peak, s.stats.Open)
	return &File{fs: s, life: s.life, name: name, named: true, writes: b.writing, body: b}, api.OK
}

// Remove takes a file away.
func (s *FS) Remove(name string) api.Errno {
	if s == nil {
		return api.ErrNil
	}
	s.lock.Lock()
	defer s.lock.Unlock()
	if e := s.call(api.OpRemove); e != api.OK {
		return e
	}
	if !nameHolds(name) {
		return api.ErrName
	}
	b := s.files[name]
	if b == nil {
		return api.ErrMissing
	}
	if b.open > 0 {
		return api.ErrBusy
	}
	s.grow(-len(b.data))
	delete(s.files, name)
	return api.OK
}

// Rename gives a file another name, in the place of one that has it.
func (s *FS) Rename(from string, to string) api.Errno {
	if s == nil {
		return api.ErrNil
	}
	s.lock.Lock()
	defer s.lock.Unlock()
	if e := s.call(api.OpRename); e != api.OK {
		return e
	}
	if !nameHolds(from) || !nameHolds(to) {
		return api.ErrName
	}
	b, old := s.files[from], s.files[to]
	if b == nil {
		return api.ErrMissing
	}
	if b.open > 0 || old != nil && old.open > 0 {
		return api.ErrBusy
	}
	if from == to {
		return api.OK
	}
	if old != nil {
		s.grow(-len(old.data))
	}
	delete(s.files, from)
	s.files[to] = b
	return api.OK
}

// Stat tells of a file.
func (s *FS) Stat(name string) (api.FileInfo, api.Errno) {
	if s == nil {
		return api.FileInfo{}, api.ErrNil
	}
	s.lock.Lock()
	defer s.lock.Unlock()
	if e := s.call(api.OpStat); e != api.OK {
		return api.FileInfo{}, e
	}
	if !nameHolds(name) {
		return api.FileInfo{}, api.ErrName
	}
	b := s.files[name]
	if b == nil {
		return api.FileInfo{}, api.ErrMissing
	}
	return api.FileInfo{Name: name, Size: len(b.data), Synced: b.synced, Open: b.open}, api.OK
}

// List tells the names that begin with prefix, rising.
func (s *FS) List(prefix string) ([]string, api.Errno) {
	if s == nil {
		return nil, api.ErrNil
	}
	s.lock.Lock()
	defer s.lock.Unlock()
	if e := s.call(api.OpList); e != api.OK {
		return nil, e
	}
	return s.names(prefix), api.OK
}

// Put lays a file in from outside, synced.
func (s *FS) Put(name string, data []byte) api.Errno {
	if s == nil {
		return api.ErrNil
	}
	s.lock.Lock()
	defer s.lock.Unlock()
	if !nameHolds(name) {
		return api.ErrName
	}
	old, size := s.files[name], 0
	if old != nil {
		size = len(old.data)
	}
	if old != nil && old.open > 0 {
		return api.ErrBusy
	}
	if old == nil && len(s.files) >= s.maxFiles {
		return api.ErrFull
	}
	if len(data) > s.maxBytes-s.stats.Used+size {
		return api.ErrSpace
	}
	s.files[name] = &body{data: bytes.Clone(data), synced: len(data)}
	s.grow(len(data) - size)
	return api.OK
}

// Look tells a file's bytes from outside.
func (s *FS) Look(name string) ([]byte, bool) {
	if s == nil {
		return nil, false
	}
	s.lock.Lock()
	defer s.lock.Unlock()
	b := s.files[name]
	if b == nil {
		return nil, false
	}
	return bytes.Clone(b.data), true
}

// Synced tells how many of them are synced.
func (s *FS) Synced(name string) (int, bool) {
	if s == nil {
		return 0, false
	}
	s.lock.Lock()
	defer s.lock.Unlock()
	b := s.files[name]
	if b == nil {
		return 0, false
	}
	return b.synced, true
}

// Names tells all names, rising.
func (s *FS) Names() []string {
	if s == nil {
		return nil
	}
	s.lock.Lock()
	defer s.lock.Unlock()
	return s.names("")
}

func nameHolds(name string) bool {
	return len(name) >= 1 && len(name) <= api.MaxName && strings.IndexByte(name, 0) < 0
}

// refuseOpen tells why Open can't do what it is asked.
func (s *FS) refuseOpen(name string, mode api.Mode) api.Errno {
	if mode < api.ModeRead || mode > api.ModeAppend {
		return api.ErrArg
	}
	if !nameHolds(name) {
		return api.ErrName
	}
	b := s.files[name]
	switch {
	case mode == api.ModeRead && b == nil:
		return api.ErrMissing
	case mode == api.ModeRead && b.writing:
		return api.ErrBusy
	case mode == api.ModeNew && b != nil:
		return api.ErrThere
	case (mode == api.ModeTrunc || mode == api.ModeAppend) && b != nil && b.open > 0:
		return api.ErrBusy
	case b == nil && len(s.files) >= s.maxFiles:
		return api.ErrFull
	case s.stats.Open >= s.maxHandles:
		return api.ErrHandles
	}
	return api.OK
}

// grow counts bytes that files have got, or lost.
func (s *FS) grow(n int) {
	s.stats.Used += n
	s.stats.Most = max(s.stats.Most, s.stats.Used)
}

func (s *FS) names(prefix string) []string {
	var l []string
	for name := range s.files {
		if strings.HasPrefix(name, prefix) {
			l = append(l, name)
		}
	}
	slices.Sort(l)
	return l
}
