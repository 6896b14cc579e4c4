package temps_test

import (
	"bytes"
	"encoding/binary"
	"slices"
	"strconv"
	"strings"

	"mill/api"
	"mill/simfs"
)

// modelMayBe tells whether an entry may be, by the chapter's table and list.
func modelMayBe(e api.Entry) bool {
	bare := api.Entry{Kind: e.Kind}
	switch e.Kind {
	case api.EntryJob:
		bare.Print = e.Print
	case api.EntryMake:
		bare.Name = e.Name
	case api.EntryRun:
		bare.Name, bare.Run, bare.Records, bare.Lines, bare.Sum = e.Name, e.Run, e.Records, e.Lines, e.Sum
	case api.EntryMerge:
		bare.Name, bare.Run, bare.Records, bare.Sum, bare.In = e.Name, e.Run, e.Records, e.Sum, e.In
	case api.EntryAll, api.EntryOutput:
	default:
		return false
	}
	if !alike(e, bare) {
		return false
	}
	named := e.Kind == api.EntryMake || e.Kind == api.EntryRun || e.Kind == api.EntryMerge
	if named && (e.Name == "" || len(e.Name) > 64 || strings.Contains(e.Name, "\x00")) {
		return false
	}
	if e.Kind == api.EntryMerge && (len(e.In) < 1 || len(e.In) > 64) {
		return false
	}
	for _, n := range append([]int{e.Run}, e.In...) {
		if n < 0 || n > 131071 {
			return false
		}
	}
	for i := 1; i < len(e.In); i++ {
		if e.In[i] <= e.In[i-1] {
			return false
		}
	}
	return e.Records >= 0 && e.Records <= 1<<40 && e.Lines >= 0 && e.Lines <= 1<<40
}

// modelBody gives the body of an entry, kind by kind.
func modelBody(e api.Entry) []byte {
	big, b := binary.BigEndian, []byte{byte(e.Kind)}
	name := append([]byte{byte(len(e.Name))}, e.Name...)
	number, records, sum := big.AppendUint32(nil, uint32(e.Run)), big.AppendUint64(nil, uint64(e.Records)), big.AppendUint32(nil, e.Sum)
	switch e.Kind {
	case api.EntryJob:
		return big.AppendUint64(b, e.Print)
	case api.EntryMake:
		return slices.Concat(b, name)
	case api.EntryRun:
		return slices.Concat(b, name, number, records, big.AppendUint64(nil, uint64(e.Lines)), sum)
	case api.EntryMerge:
		in := []byte{byte(len(e.In))}
		for _, r := range e.In {
			in = big.AppendUint32(in, uint32(r))
		}
		return slices.Concat(b, name, number, records, sum, in)
	}
	return b
}

// modelEntry looks for the entry whose body this is: it reads what is there, and lays it again.
func modelEntry(body []byte) (api.Entry, bool) {
	// What is not there reads as 0; then it does not come out the same.
	b := append(slices.Clip(body), make([]byte, 600)...)
	big := binary.BigEndian
	e := api.Entry{Kind: api.EntryKind(b[0])}
	end := 2 + int(b[1])
	switch e.Kind {
	case api.EntryJob:
		e.Print = big.Uint64(b[1:])
	case api.EntryMake:
		e.Name = string(b[2:end])
	case api.EntryRun:
		e.Name, e.Run = string(b[2:end]), int(big.Uint32(b[end:]))
		e.Records, e.Lines, e.Sum = int(big.Uint64(b[end+4:])), int(big.Uint64(b[end+12:])), big.Uint32(b[end+20:])
	case api.EntryMerge:
		e.Name, e.Run = string(b[2:end]), int(big.Uint32(b[end:]))
		e.Records, e.Sum = int(big.Uint64(b[end+4:])), big.Uint32(b[end+12:])
		// Any runs behind the 64th can't be right.
		for i := range min(int(b[end+16]), 65) {
			e.In = append(e.In, int(big.Uint32(b[end+17+4*i:])))
		}
	}
	return e, modelMayBe(e) && bytes.Equal(modelBody(e), body)
}

// modelDecode is Decode, by cutting each entry out and laying it again.
func modelDecode(b []byte) ([]api.Entry, int, api.Errno) {
	var l []api.Entry
	for at := 0; ; {
		rest := b[at:]
		if len(rest) == 0 {
			return l, at, api.OK
		}
		head := rest[:min(11, len(rest))]
		if head[0] != 0xE5 {
			return l, at, api.ErrJournal
		}
		if len(head) < 11 {
			return l, at, api.ErrTorn
		}
		length := int(head[5])*256 + int(head[6])
		if !bytes.Equal(sealed(uint32(len(l)), make([]byte, length))[:11], head) {
			return l, at, api.ErrJournal
		}
		if len(rest)-11 < length+4 {
			return l, at, api.ErrTorn
		}
		body := rest[11 : 11+length]
		e, ok := modelEntry(body)
		if !ok || !bytes.HasPrefix(rest, sealed(uint32(len(l)), body)) || e.Kind == api.EntryJob && len(l) > 0 || e.Kind != api.EntryJob && len(l) == 0 {
			return l, at, api.ErrJournal
		}
		l, at = append(l, e), at+length+15
	}
}

// modelRegistry is a registry: plain lists.
type modelRegistry struct {
	s      *simfs.FS
	prefix string
	avoid  []string
	next   int
	names  []string
}

func (m *modelRegistry) reserve() (string, api.Errno) {
	for {
		if m.next > 99999 {
			return "", api.ErrTemps
		}
		digits := "0000" + strconv.Itoa(m.next)
		name := m.prefix + "." + digits[len(digits)-5:]
		if slices.Contains(m.names, name) || slices.Contains(m.avoid, name) {
			m.next++
			continue
		}
		_, e := m.s.Stat(name)
		switch e {
		case api.OK:
			m.next++
		case api.ErrMissing:
			m.next++
			return name, api.OK
		default:
			return "", e
		}
	}
}

func (m *modelRegistry) create(name string) api.Errno {
	if slices.Contains(m.names, name) {
		return api.ErrArg
	}
	_, e := m.s.Open(name, api.ModeNew)
	if e == api.OK {
		m.names = append(m.names, name)
	}
	return e
}

func (m *modelRegistry) adopt(name string) api.Errno {
	if slices.Contains(m.names, name) {
		return api.ErrArg
	}
	m.names = append(m.names, name)
	return api.OK
}

func (m *modelRegistry) release(name string) bool {
	i := slices.Index(m.names, name)
	if i >= 0 {
		m.names = slices.Delete(m.names, i, i+1)
	}
	return i >= 0
}

func (m *modelRegistry) drop(name string) api.Errno {
	if !slices.Contains(m.names, name) {
		return api.ErrArg
	}
	e := m.s.Remove(name)
	if e == api.OK || e == api.ErrMissing {
		m.release(name)
		return api.OK
	}
	return e
}

func (m *modelRegistry) sweep() (int, api.Errno) {
	n, first := 0, api.OK
	var left []string
	for _, name := range m.names {
		e := m.s.Remove(name)
		if e == api.OK {
			n++
		} else if e != api.ErrMissing {
			left = append(left, name)
			if first == api.OK {
				first = e
			}
		}
	}
	m.names = left
	return n, first
}

// modelJournal is a journal: a list of entries.
type modelJournal struct {
	s    *simfs.FS
	name string
	f    *simfs.File
	l    []api.Entry
	over bool
	err  api.Errno
}

func modelBegin(s *simfs.FS, name string, print uint64) (*modelJournal, api.Errno) {
	if _, e := s.Stat(name + ".new"); e == api.OK {
		return nil, api.ErrThere
	} else if e != api.ErrMissing {
		return nil, e
	}
	f, e := s.Open(name, api.ModeNew)
	if e != api.OK {
		return nil, e
	}
	_, e = f.Write(bytesOf(job(print)))
	if e == api.OK {
		e = f.Sync()
	}
	if e != api.OK {
		f.Close()
		s.Remove(name)
		return nil, e
	}
	return &modelJournal{s: s, name: name, f: f, l: []api.Entry{job(print)}}, api.OK
}

func modelResume(s *simfs.FS, name string, print uint64) (*modelJournal, api.Errno) {
	f, e := s.Open(name, api.ModeRead)
	if e != api.OK {
		return nil, e
	}
	var data []byte
	for {
		b, e := f.Read(4096)
		if e != api.OK {
			f.Close()
			return nil, e
		}
		if len(b) == 0 {
			break
		}
		data = append(data, b...)
	}
	if e := f.Close(); e != api.OK {
		return nil, e
	}
	l, _, why := modelDecode(data)
	if why == api.ErrJournal || len(l) == 0 && !strings.HasPrefix(string(bytesOf(job(print))), string(data)) {
		return nil, api.ErrJournal
	}
	if len(l) == 0 {
		l, why = []api.Entry{job(print)}, api.ErrTorn
	}
	if l[0].Print != print {
		return nil, api.ErrOther
	}
	if why == api.ErrTorn {
		if e := modelAnew(s, name, bytesOf(l...)); e != api.OK {
			return nil, e
		}
	}
	f, e = s.Open(name, api.ModeAppend)
	if e != api.OK {
		return nil, e
	}
	return &modelJournal{s: s, name: name, f: f, l: l}, api.OK
}

func modelAnew(s *simfs.FS, name string, data []byte) api.Errno {
	f, e := s.Open(name+".new", api.ModeTrunc)
	if e != api.OK {
		return e
	}
	if _, e := f.Write(data); e != api.OK {
		f.Close()
		return e
	}
	if e := f.Sync(); e != api.OK {
		f.Close()
		return e
	}
	if e := f.Close(); e != api.OK {
		return e
	}
	return s.Rename(name+".new", name)
}

func (m *modelJournal) note(e api.Entry) api.Errno {
	if m.over {
		return api.ErrClosed
	}
	if m.err != api.OK {
		return m.err
	}
	if e.Kind == api.EntryJob || !modelMayBe(e) {
		return api.ErrJournal
	}
	if _, m.err = m.f.Write(sealed(uint32(len(m.l)), modelBody(e))); m.err != api.OK {
		return m.err
	}
	if m.err = m.f.Sync(); m.err != api.OK {
		return m.err
	}
	m.l = append(m.l, e)
	return api.OK
}

func (m *modelJournal) close() api.Errno {
	if m.over {
		return api.ErrClosed
	}
	m.over = true
	return m.f.Close()
}

func (m *modelJournal) finish() api.Errno {
	if !m.over {
		m.over = true
		m.f.Close()
	}
	if e := m.s.Remove(m.name); e != api.ErrMissing {
		return e
	}
	return api.OK
}
