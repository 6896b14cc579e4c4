package simfs_test

import (
	"fmt"
	"slices"
	"strings"
	"testing"

	"mill/api"
	"mill/simfs"
)

// The model says the chapter once more, as plainly as it goes: long walks of calls and hands must answer the same on it and on the system.

type modelFile struct {
	name   string
	data   string
	synced int
}

type modelHandle struct {
	file   *modelFile // nil: a stream
	reads  bool
	closed bool
	data   string // of a stream: what is left to be read, or what was taken
	at     int
	room   int
}

type model struct {
	c       api.FsConfig
	files   []*modelFile
	handles []*modelHandle
	st      api.FsStats
}

func (m *model) find(name string) *modelFile {
	for _, f := range m.files {
		if f.name == name {
			return f
		}
	}
	return nil
}

func (m *model) openOf(f *modelFile, writing bool) int {
	n := 0
	for _, h := range m.handles {
		if h.file == f && f != nil && !h.closed && (!writing || !h.reads) {
			n++
		}
	}
	return n
}

func (m *model) count() {
	m.st.Open, m.st.Used = 0, 0
	for _, h := range m.handles {
		if h.file != nil && !h.closed {
			m.st.Open++
		}
	}
	for _, f := range m.files {
		m.st.Used += len(f.data)
	}
	m.st.Peak, m.st.Most = max(m.st.Peak, m.st.Open), max(m.st.Most, m.st.Used)
}

func (m *model) call(op api.Op) api.Errno {
	m.st.Calls++
	m.st.By[op]++
	if m.st.Calls == m.c.Interrupt {
		m.st.Stopped = true
	}
	if m.c.Power > 0 && m.st.Calls >= m.c.Power {
		m.st.Dark = true
	}
	if m.st.Dark {
		return api.ErrPower
	}
	i := slices.IndexFunc(m.c.Faults, func(f api.Fault) bool { return f.Op == op && f.Nth == m.st.By[op] })
	if i < 0 {
		return api.OK
	}
	if m.c.Faults[i].Space {
		return api.ErrSpace
	}
	return api.ErrIO
}

func badName(n string) bool { return len(n) == 0 || len(n) > 64 || strings.Contains(n, "\x00") }

// first gives the first error whose condition holds.
func first(l ...any) api.Errno {
	for i := 0; i < len(l); i += 2 {
		if l[i].(bool) {
			return l[i+1].(api.Errno)
		}
	}
	return api.OK
}

func (m *model) open(name string, mode api.Mode) api.Errno {
	f := m.find(name)
	writes := mode == api.ModeTrunc || mode == api.ModeAppend
	e := first(mode == 0 || mode > 4, api.ErrArg, badName(name), api.ErrName,
		mode == api.ModeRead && f == nil, api.ErrMissing, mode == api.ModeRead && m.openOf(f, true) > 0, api.ErrBusy,
		mode == api.ModeNew && f != nil, api.ErrThere, writes && m.openOf(f, false) > 0, api.ErrBusy,
		f == nil && len(m.files) >= m.c.Files, api.ErrFull, m.st.Open >= m.c.Handles, api.ErrHandles)
	if e != api.OK {
		return e
	}
	if f == nil {
		f = &modelFile{name: name}
		m.files = append(m.files, f)
		m.st.Made++
	}
	if mode == api.ModeTrunc {
		f.data, f.synced = "", 0
	}
	m.handles = append(m.handles, &modelHandle{file: f, reads: mode == api.ModeRead})
	return api.OK
}

func (m *model) read(h *modelHandle, most int) (string, api.Errno) {
	if e := first(h.closed, api.ErrClosed, !h.reads, api.ErrMode, most < 1, api.ErrArg); e != api.OK {
		return "", e
	}
	if n := len(m.c.Short); n > 0 {
		most = min(most, m.c.Short[(m.st.By[api.OpRead]-1)%n])
	}
	data := h.data
	if h.file != nil {
		data = h.file.data
	}
	got := data[h.at:min(len(data), h.at+most)]
	h.at += len(got)
	return got, api.OK
}

func (m *model) write(h *modelHandle, b string) (int, api.Errno) {
	if e := first(h.closed, api.ErrClosed, h.reads, api.ErrMode); e != api.OK {
		return 0, e
	}
	n := len(b)
	if h.file != nil {
		n = min(n, m.c.Capacity-m.st.Used)
		h.file.data += b[:n]
		m.st.Written += n
	} else {
		if h.room >= 0 {
			n = min(n, h.room-len(h.data))
		}
		h.data += b[:n]
	}
	return n, first(n < len(b), api.ErrSpace)
}

func (m *model) drop(f *modelFile) {
	m.files = slices.DeleteFunc(m.files, func(g *modelFile) bool { return g == f })
}

func (m *model) rename(from, to string) api.Errno {
	f, g := m.find(from), m.find(to)
	e := first(badName(from) || badName(to), api.ErrName, f == nil, api.ErrMissing, m.openOf(f, false)+m.openOf(g, false) > 0, api.ErrBusy)
	if e == api.OK && from != to {
		m.drop(g)
		f.name = to
	}
	return e
}

func (m *model) reboot(keep int) {
	for _, f := range m.files {
		f.data = f.data[:min(len(f.data), f.synced+keep)]
		f.synced = len(f.data)
	}
	for _, h := range m.handles {
		h.closed = true
	}
	m.c.Short, m.c.Faults, m.c.Interrupt, m.c.Power = nil, nil, 0, 0
	m.st = api.FsStats{}
}

func (m *model) put(name, data string) api.Errno {
	f := m.find(name)
	old := ""
	if f != nil {
		old = f.data
	}
	e := first(badName(name), api.ErrName, m.openOf(f, false) > 0, api.ErrBusy, f == nil && len(m.files) >= m.c.Files, api.ErrFull,
		m.st.Used-len(old)+len(data) > m.c.Capacity, api.ErrSpace)
	if e == api.OK {
		m.drop(f)
		m.files = append(m.files, &modelFile{name, data, len(data)})
	}
	return e
}

func (m *model) snapshot() string {
	var l []string
	for _, f := range m.files {
		l = append(l, fmt.Sprintf("%s=%s/%d", f.name, f.data, f.synced))
	}
	slices.Sort(l)
	return strings.Join(l, " ")
}

// walk draws its steps by a rule, so that each run of a test is the same.
type walk struct {
	t     *testing.T
	seed  uint32
	s     *simfs.FS
	m     *model
	files []*simfs.File
}

func (w *walk) draw(n int) int {
	w.seed = w.seed*1664525 + 1013904223
	return int(w.seed>>16) % n
}

func (w *walk) name() string {
	return []string{"a", "b", "c", "d", "a", "b", "c", "", "a\x00"}[w.draw(9)]
}

func (w *walk) data() string { return "0123456789abcdefghij"[w.draw(10):][:w.draw(9)] }

func (w *walk) plan() api.FsConfig {
	var c api.FsConfig
	for range w.draw(3) {
		c.Short = append(c.Short, 1+w.draw(4))
	}
	for range w.draw(6) {
		f := api.Fault{Op: kinds[w.draw(9)], Nth: 1 + w.draw(8)}
		f.Space = f.Op == api.OpWrite && w.draw(2) > 0
		c.Faults = append(c.Faults, f)
	}
	if w.draw(3) > 0 {
		c.Interrupt = w.draw(40)
	}
	if w.draw(3) > 0 {
		c.Power = w.draw(80)
	}
	return c
}

// pair makes a stream, or picks a File that was made; they stand in the same place on both sides.
func (w *walk) pair() (*simfs.File, *modelHandle) {
	if w.draw(8) == 0 || len(w.files) == 0 {
		data, room := w.data(), w.draw(12)-2
		f, h := w.s.Input([]byte(data)), &modelHandle{reads: true, data: data}
		if w.draw(2) > 0 {
			f, h = w.s.Sink(room), &modelHandle{room: room}
		}
		w.files, w.m.handles = append(w.files, f), append(w.m.handles, h)
	}
	i := max(w.draw(len(w.files)), w.draw(len(w.files)))
	return w.files[i], w.m.handles[i]
}

func (w *walk) open() (string, string) {
	name, mode := w.name(), api.Mode(w.draw(6))
	f, e := w.s.Open(name, mode)
	if f != nil {
		w.files = append(w.files, f)
	}
	k := w.m.call(api.OpOpen)
	if k == api.OK {
		k = w.m.open(name, mode)
	}
	return fmt.Sprint(name, mode, f != nil, e), fmt.Sprint(name, mode, k == api.OK, k)
}

func (w *walk) ofFile(op api.Op) (string, string) {
	f, h := w.pair()
	k := w.m.call(op)
	switch op {
	case api.OpRead:
		most, got := w.draw(7), ""
		b, e := f.Read(most)
		if k == api.OK {
			got, k = w.m.read(h, most)
		}
		return fmt.Sprintf("%q %d", b, e), fmt.Sprintf("%q %d", got, k)
	case api.OpWrite:
		data, n := w.data(), 0
		p, e := f.Write([]byte(data))
		if k == api.OK {
			n, k = w.m.write(h, data)
		}
		return fmt.Sprint(p, e), fmt.Sprint(n, k)
	case api.OpSync:
		e := f.Sync()
		if k == api.OK {
			k = first(h.closed, api.ErrClosed, h.reads, api.ErrMode)
			if k == api.OK && h.file != nil {
				h.file.synced = len(h.file.data)
			}
		}
		return fmt.Sprint(e), fmt.Sprint(k)
	}
	e := f.Close()
	if k == api.OK {
		k = first(h.closed, api.ErrClosed)
	}
	h.closed = h.closed || k != api.ErrPower
	return fmt.Sprint(e), fmt.Sprint(k)
}

func (w *walk) ofName(op api.Op) (string, string) {
	name, to := w.name(), w.name()
	k := w.m.call(op)
	g := w.m.find(name)
	switch op {
	case api.OpRemove:
		e := w.s.Remove(name)
		if k == api.OK {
			k = first(badName(name), api.ErrName, g == nil, api.ErrMissing, w.m.openOf(g, false) > 0, api.ErrBusy)
			if k == api.OK {
				w.m.drop(g)
			}
		}
		return fmt.Sprint(name, e), fmt.Sprint(name, k)
	case api.OpRename:
		e := w.s.Rename(name, to)
		if k == api.OK {
			k = w.m.rename(name, to)
		}
		return fmt.Sprint(name, to, e), fmt.Sprint(name, to, k)
	case api.OpStat:
		i, e := w.s.Stat(name)
		j := api.FileInfo{}
		if k == api.OK {
			k = first(badName(name), api.ErrName, g == nil, api.ErrMissing)
			if k == api.OK {
				j = api.FileInfo{Name: name, Size: len(g.data), Synced: g.synced, Open: w.m.openOf(g, false)}
			}
		}
		return fmt.Sprint(name, i, e), fmt.Sprint(name, j, k)
	}
	l, e := w.s.List(name)
	var names []string
	for _, f := range w.m.files {
		if k == api.OK && strings.HasPrefix(f.name, name) {
			names = append(names, f.name)
		}
	}
	slices.Sort(names)
	return fmt.Sprintf("%q %q %d", name, l, e), fmt.Sprintf("%q %q %d", name, names, k)
}

func (w *walk) byHand() (string, string) {
	switch w.draw(12) {
	case 0:
		w.s.Interrupt()
		w.m.st.Stopped = true
	case 1:
		w.s.Cut()
		w.m.st.Dark = true
	case 2, 3, 4:
		keep := w.draw(6)
		w.s.Reboot(keep)
		w.m.reboot(keep)
	case 5, 6, 7:
		c := w.plan()
		e := w.s.Arm(c)
		if w.m.st.Dark {
			return fmt.Sprint(e), fmt.Sprint(api.ErrPower)
		}
		c.Capacity, c.Files, c.Handles = w.m.c.Capacity, w.m.c.Files, w.m.c.Handles
		w.m.c, w.m.st = c, api.FsStats{}
		return fmt.Sprint(e), fmt.Sprint(api.OK)
	default:
		name, data := w.name(), w.data()
		e := w.s.Put(name, []byte(data))
		return fmt.Sprint(name, data, e), fmt.Sprint(name, data, w.m.put(name, data))
	}
	return "", ""
}

func (w *walk) step() (string, string) {
	n := w.draw(30)
	switch {
	case n < 6:
		return w.open()
	case n < 20:
		return w.ofFile([]api.Op{api.OpRead, api.OpRead, api.OpWrite, api.OpWrite, api.OpSync, api.OpClose, api.OpClose}[n%7])
	case n < 28:
		return w.ofName([]api.Op{api.OpRemove, api.OpRename, api.OpStat, api.OpList}[n%4])
	}
	return w.byHand()
}

// P1.1 to P1.16: walks of all calls and hands, each step and each state as the model has it.
func TestWalks(t *testing.T) {
	for seed := range uint32(300) {
		w := &walk{t: t, seed: seed * 7919}
		c := w.plan()
		c.Capacity, c.Files, c.Handles = w.draw(40), 1+w.draw(4), 1+w.draw(4)
		w.s, w.m = system(t, c), &model{c: c}
		for i := range 300 {
			got, wanted := w.step()
			w.m.count()
			for j, f := range w.files {
				if h := w.m.handles[j]; h.file == nil && !h.reads && string(f.Taken()) != h.data {
					t.Fatalf("walk %d, step %d: taken %q, want %q", seed, i, f.Taken(), h.data)
				}
			}
			if got != wanted || files(w.s) != w.m.snapshot() || w.s.Stats() != w.m.st || isClosed(w.s.Done()) != w.m.st.Stopped {
				t.Fatalf("walk %d, step %d: %s, want %s\n%s\n%s\n%v\n%v", seed, i, got, wanted, files(w.s), w.m.snapshot(), w.s.Stats(), w.m.st)
			}
		}
	}
}
