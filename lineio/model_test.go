package lineio_test

import (
	"strings"
	"testing"

	"mill/api"
	"mill/lineio"
)

// The models say P2.4 and P2.8 to P2.11 once more, as plainly as they stand: all short files and all short walks must go the same on both.

type modelReader struct {
	file   string // what Reads have not brought yet
	size   int
	sep    string
	short  []int
	refuse int // this Read is refused
	reads  int
	rest   string
	ended  bool
	whole  bool
	lines  int
	err    api.Errno
}

func (m *modelReader) next() (string, bool, api.Errno) {
	for m.err == api.OK {
		head, tail, found := strings.Cut(m.rest, m.sep)
		switch {
		case found && len(head) <= api.MaxLine:
			m.rest = tail
			m.lines++
			return head, true, api.OK
		case len(m.rest) > api.MaxLine:
			m.err = api.ErrLong
		case m.ended && m.rest == "":
			return "", false, api.OK
		case m.ended:
			m.rest, m.whole = "", false
			m.lines++
			return head, true, api.OK
		default:
			m.read()
		}
	}
	return "", false, m.err
}

func (m *modelReader) read() {
	m.reads++
	if m.reads == m.refuse {
		m.err = api.ErrIO
		return
	}
	n := min(m.size, len(m.file))
	if len(m.short) > 0 {
		n = min(n, m.short[(m.reads-1)%len(m.short)])
	}
	m.ended = n == 0
	m.rest, m.file = m.rest+m.file[:n], m.file[n:]
}

// walkReader asks both for the next line so many times: enough to go on a little behind the last one.
func walkReader(t *testing.T, m *modelReader, times int) {
	data := m.file
	s := system(t, api.FsConfig{Short: m.short})
	if m.refuse > 0 {
		s.Arm(api.FsConfig{Short: m.short, Faults: []api.Fault{{Op: api.OpRead, Nth: m.refuse}}})
	}
	r, _ := lineio.NewReader(s.Input([]byte(data)), m.size, m.sep[0])
	for range times {
		wl, wok, we := m.next()
		l, ok, e := r.Next()
		same := l == wl && ok == wok && e == we
		if !same || r.Whole() != m.whole || r.Lines() != m.lines || r.Err() != m.err || s.Stats().Calls != m.reads {
			t.Fatalf("%s, size %d, short %v, refused %d: Next: %s, %v, %d, want %s, %v, %d; %v, %d, %d, %d Reads, want %v, %d, %d, %d",
				brief(data), m.size, m.short, m.refuse, brief(l), ok, e, brief(wl), wok, we, r.Whole(), r.Lines(), r.Err(), s.Stats().Calls, m.whole, m.lines, m.err, m.reads)
		}
	}
}

// P2.4, P2.5, P2.7.
func TestReaderAgainstTheModel(t *testing.T) {
	for _, data := range texts("a\n\x00", 5) {
		for _, size := range []int{1, 2, 3, 9} {
			for _, short := range [][]int{nil, {1}, {2, 1}} {
				for refuse := range 5 {
					walkReader(t, &modelReader{file: data, size: size, sep: "\n", short: short, refuse: refuse, whole: true}, len(data)+3)
				}
			}
		}
		walkReader(t, &modelReader{file: data, size: 2, sep: "\x00", whole: true}, len(data)+3)
	}
}

// P2.4: the same at the limit of a line, where Reads bring it and what stands around it in all kinds of pieces.
func TestReaderAgainstTheModelAtTheLimit(t *testing.T) {
	for _, first := range []int{65535, 65536, 65537} {
		for _, head := range []string{"", "\n", "a\n\nb\n"} {
			for _, tail := range []string{"", "\n", "\nc", "\n" + xs(65536) + "\nd", "\n" + xs(65537) + "\n"} {
				for _, size := range []int{4096, 65533, 65536} {
					for _, short := range [][]int{nil, {40000, 1, 30000}} {
						m := &modelReader{file: head + xs(first) + tail, size: size, sep: "\n", short: short, whole: true}
						walkReader(t, m, 9)
					}
				}
			}
		}
	}
}

type modelWriter struct {
	size   int
	sep    string
	room   int
	refuse int // this Write is refused
	writes int
	rest   string
	file   string
	counts [3]int
	err    api.Errno
}

func (m *modelWriter) write(n int) {
	m.writes++
	piece := m.rest[:n]
	m.rest = m.rest[n:]
	if m.writes == m.refuse {
		m.err = api.ErrIO
		return
	}
	took := n
	if m.room >= 0 && took > m.room-len(m.file) {
		took, m.err = m.room-len(m.file), api.ErrSpace
	}
	m.file += piece[:took]
	m.counts[2] += took
}

func (m *modelWriter) join(s string, lines int) api.Errno {
	m.counts[0] += lines
	m.counts[1] += len(s)
	m.rest += s
	for m.err == api.OK && len(m.rest) >= m.size {
		m.write(m.size)
	}
	return m.err
}

// step makes one step on both and compares the two answers; what begins with + is raw, ! flushes.
func (m *modelWriter) step(w *lineio.Writer, what string) (api.Errno, api.Errno) {
	raw, isRaw := strings.CutPrefix(what, "+")
	switch {
	case isRaw && m.err != api.OK:
		return w.Raw(raw), m.err
	case isRaw:
		return w.Raw(raw), m.join(raw, 0)
	case what == "!":
		if m.err == api.OK && m.rest != "" {
			m.write(len(m.rest))
		}
		return w.Flush(), m.err
	case m.err != api.OK:
		return w.Put(what), m.err
	case strings.Contains(what, m.sep):
		return w.Put(what), api.ErrInner
	}
	return w.Put(what), m.join(what+m.sep, 1)
}

func walkWriter(t *testing.T, m modelWriter, steps []string) {
	s := system(t, api.FsConfig{})
	if m.refuse > 0 {
		s.Arm(api.FsConfig{Faults: []api.Fault{{Op: api.OpWrite, Nth: m.refuse}}})
	}
	k := s.Sink(m.room)
	w, _ := lineio.NewWriter(k, m.size, m.sep[0])
	for i, what := range steps {
		e, we := m.step(w, what)
		a, b, c := w.Stat()
		if e != we || w.Err() != m.err || [3]int{a, b, c} != m.counts || s.Stats().Calls != m.writes || string(k.Taken()) != m.file {
			t.Fatalf("size %d, room %d, refused %d: %q: at %d: %d, want %d; %d, %v, %d Writes, %q, want %d, %v, %d, %q",
				m.size, m.room, m.refuse, steps, i, e, we, w.Err(), [3]int{a, b, c}, s.Stats().Calls, k.Taken(), m.err, m.counts, m.writes, m.file)
		}
	}
}

// P2.8 to P2.12.
func TestWriterAgainstTheModel(t *testing.T) {
	kinds := []string{"", "a", "bcd", "x\ny", "x\x00y", "+", "+pq", "+\n\x00rstu", "!"}
	for _, walk := range texts("012345678", 4) {
		var steps []string
		for i := range walk {
			steps = append(steps, kinds[walk[i]-'0'])
		}
		for i, m := range []modelWriter{{size: 1, room: -1}, {size: 2, room: -1}, {size: 3, room: -1}, {size: 4, room: -1}, {size: 9, room: -1}, {size: 2, room: 5}, {size: 3, room: 4}, {size: 9, room: 3},
			{size: 1, room: -1, refuse: 2}, {size: 2, room: -1, refuse: 3}, {size: 3, room: 7, refuse: 2}, {size: 9, room: -1, refuse: 1}} {
			m.sep = "\n\x00"[i%2 : i%2+1]
			walkWriter(t, m, steps)
		}
	}
}
