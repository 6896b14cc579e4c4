package spill_test

import (
	"bytes"
	"slices"
	"testing"

	"mill/api"
	"mill/simfs"
	"mill/spill"
)

// noWriter tells that no Writer was made, and why.
func noWriter(t *testing.T, f *simfs.File, block int, wanted api.Errno) {
	t.Helper()
	w, e := spill.Create(f, block, true)
	if w != nil || e != wanted {
		t.Errorf("Create(block %d): %v, %d, want %d", block, w != nil, e, wanted)
	}
}

// P7.1: the errors in their order, and no call ahead of the Write.
func TestCreateRefuses(t *testing.T) {
	s := system(t, api.FsConfig{})
	f := openFile(t, s, "out", api.ModeNew, api.FsConfig{})
	noWriter(t, nil, 0, api.ErrNil)
	noWriter(t, nil, 1, api.ErrNil)
	for _, block := range []int{0, -1, -1 << 63, api.MaxBlock + 1, 1<<63 - 1, 1 << 32} {
		noWriter(t, f, block, api.ErrArg)
	}
	holds(t, s, nil, 0)
}

// P7.1: what the Write of the head answers.
func TestCreateHandsOnErrors(t *testing.T) {
	s := system(t, api.FsConfig{})
	noWriter(t, openFile(t, s, "out", api.ModeNew, fault(api.OpWrite, 1)), 10, api.ErrIO)
	holds(t, s, nil, 1)
	noWriter(t, s.Input(nil), 10, api.ErrMode)
	noWriter(t, s.Sink(13), 10, api.ErrSpace)
	closed := s.Sink(-1)
	closed.Close()
	noWriter(t, closed, 10, api.ErrClosed)
	s.Cut()
	noWriter(t, s.Sink(-1), 10, api.ErrPower)
}

// P7.1: the head is there as soon as the Writer is, by one Write; the size and the word for packing stand in it.
func TestCreateWritesTheHead(t *testing.T) {
	for _, block := range []int{1, 2, 255, 256, 258, 65535, 65536} {
		for i, pack := range []bool{false, true} {
			s, _ := writer(t, block, pack, api.FsConfig{})
			holds(t, s, head(byte(i), uint32(block)), 1)
		}
	}
	s, _ := writer(t, 65536, true, api.FsConfig{})
	holds(t, s, join(unhex("4D 52 55 4E 01 01 00 01 00 00"), withSum(unhex("4D 52 55 4E 01 01 00 01 00 00"))[10:]), 1)
}

// P7.1: the file may be there already, and the run begins behind what it has; RunInfo tells of the run alone.
func TestCreateBehindOtherBytes(t *testing.T) {
	s := system(t, api.FsConfig{})
	s.Put("out", []byte("before"))
	w, e := spill.Create(openFile(t, s, "out", api.ModeAppend, api.FsConfig{}), 10, false)
	want(t, "Create", e, api.OK)
	info, e := w.Finish()
	want(t, "Finish", e, api.OK)
	want(t, "RunInfo", info, api.RunInfo{Bytes: 39})
	holds(t, s, join([]byte("before"), runBytes(t, nil, 10, false)), 2)
}

// written says what the file holds, and by how many Writes, when so many bytes of the stream have come, and when the Writer is finished.
func written(raw []byte, block int, records int, finished bool) ([]byte, int) {
	if finished {
		n := (len(raw) + block - 1) / block
		return plain(raw, block, uint64(records)), n + 2
	}
	n := len(raw) / block
	b := head(0, uint32(block))
	for i := range n {
		b = append(b, stored(raw[i*block:(i+1)*block])...)
	}
	return b, n + 1
}

// P7.2, P7.3: what stands in the file behind each call, and how many Writes that took.
func TestAddWritesFullBlocks(t *testing.T) {
	for _, c := range lists() {
		for _, block := range []int{1, 2, 3, 4, 5, 7, 64, 4096, 65535, 65536} {
			if len(c.l) > 20 && block < 4 || block < 4096 && len(stream(c.l...)) > 20000 {
				continue
			}
			s, w := writer(t, block, false, api.FsConfig{})
			for i, r := range c.l {
				want(t, c.name, w.Add(r), api.OK)
				b, n := written(stream(c.l[:i+1]...), block, 0, false)
				holds(t, s, b, n)
			}
			info, e := w.Finish()
			want(t, c.name, e, api.OK)
			b, n := written(stream(c.l...), block, len(c.l), true)
			holds(t, s, b, n)
			want(t, c.name, info, infoOf(c.l, block, b))
		}
	}
}

// P7.2: a line as long as may be over blocks of one byte, and over the greatest ones.
func TestLongestLines(t *testing.T) {
	long := rec(1<<64-1, xs(api.MaxLine))
	for _, block := range []int{1, 65535, 65536} {
		s, w := writer(t, block, false, api.FsConfig{})
		want(t, "Add", w.Add(long), api.OK)
		raw := stream(long)
		want(t, "bytes", len(raw), 10+3+65536)
		b, n := written(raw, block, 0, false)
		holds(t, s, b, n)
	}
}

// P7.2: a record that may not be is refused, nothing has changed, and the Writer goes on.
func TestAddRefusesLongLines(t *testing.T) {
	s, w := writer(t, 3, false, api.FsConfig{})
	a, b := rec(300, "ab"), api.Rec{}
	want(t, "Add", w.Add(a), api.OK)
	for _, n := range []int{api.MaxLine + 1, api.MaxLine + 2, 1 << 20} {
		want(t, "Add", w.Add(api.Rec{Line: xs(n)}), api.ErrRecord)
	}
	calls(t, s, api.OpWrite, 2)
	want(t, "Add", w.Add(b), api.OK)
	info, e := w.Finish()
	want(t, "Finish", e, api.OK)
	file := plain(stream(a, b), 3, 2)
	want(t, "RunInfo", info, infoOf([]api.Rec{a, b}, 3, file))
	holds(t, s, file, 5)
	want(t, "Add", w.Add(api.Rec{Line: xs(api.MaxLine + 1)}), api.ErrDone)
}

// P7.1 to P7.3: an error of each Write, however it comes, is answered by the call that makes it and by each later one, and nothing more is written.
func TestErrorsOfWritesStand(t *testing.T) {
	l := []api.Rec{{Seq: 300, Line: "ab"}, {}, {Seq: 1, Line: "abcdefg"}}
	file := plain(stream(l...), 3, 3)
	for nth := 2; nth <= 8; nth++ {
		for _, p := range []struct {
			c api.FsConfig
			e api.Errno
		}{
			{fault(api.OpWrite, nth), api.ErrIO},
			{api.FsConfig{Faults: []api.Fault{{Op: api.OpWrite, Nth: nth, Space: true}}}, api.ErrSpace},
			{api.FsConfig{Power: nth}, api.ErrPower},
		} {
			s, w := writer(t, 3, false, p.c)
			got := api.OK
			step := func(e api.Errno) {
				t.Helper()
				n := s.Stats().Calls
				if got == api.OK && n == nth {
					got = p.e
				}
				want(t, "answer", e, got)
				want(t, "Writes", n <= nth, true)
			}
			for _, r := range l {
				step(w.Add(r))
			}
			info, e := w.Finish()
			step(e)
			want(t, "RunInfo", info, api.RunInfo{})
			step(w.Add(l[0]))
			step(w.Add(api.Rec{Line: xs(api.MaxLine + 1)}))
			info, e = w.Finish()
			step(e)
			want(t, "RunInfo", info, api.RunInfo{})
			calls(t, s, api.OpWrite, nth)
			b, _ := s.Look("out")
			want(t, "a beginning of the file", bytes.HasPrefix(file, b), true)
		}
	}
}

// P7.2, P7.3: a system without room: the Write that does not fit stands.
func TestFullSystem(t *testing.T) {
	l := []api.Rec{{Seq: 300, Line: "ab"}, {}}
	file := plain(stream(l...), 3, 2)
	for room := 14; room <= len(file); room++ {
		s := system(t, api.FsConfig{})
		k := s.Sink(room)
		w, _ := spill.Create(k, 3, false)
		e := w.Add(l[0])
		want(t, "first Add", e, map[bool]api.Errno{true: api.OK, false: api.ErrSpace}[room >= 33])
		e = w.Add(l[1])
		want(t, "second Add", e, map[bool]api.Errno{true: api.OK, false: api.ErrSpace}[room >= 52])
		_, e = w.Finish()
		want(t, "Finish", e, map[bool]api.Errno{true: api.OK, false: api.ErrSpace}[room >= 94])
		if !bytes.Equal(k.Taken(), file[:room]) {
			t.Errorf("room %d: %d bytes, which are no beginning of the file", room, len(k.Taken()))
		}
	}
}

// P7.2, P7.3: a finished Writer takes nothing more, and writes nothing more.
func TestFinishedWriter(t *testing.T) {
	s, w := writer(t, 3, true, api.FsConfig{})
	w.Add(rec(1, "abc"))
	w.Finish()
	n, file := s.Stats().Calls, len(look(s))
	for range 3 {
		want(t, "Add", w.Add(api.Rec{}), api.ErrDone)
		info, e := w.Finish()
		want(t, "Finish", e, api.ErrDone)
		want(t, "RunInfo", info, api.RunInfo{})
	}
	want(t, "calls", s.Stats().Calls, n)
	want(t, "bytes", len(look(s)), file)
}

func look(s *simfs.FS) []byte {
	b, _ := s.Look("out")
	return b
}

// P7.3: the file is neither closed nor synced: it goes on behind the foot.
func TestFinishLeavesTheFileOpen(t *testing.T) {
	s := system(t, api.FsConfig{})
	f := openFile(t, s, "out", api.ModeNew, api.FsConfig{})
	w, _ := spill.Create(f, 3, false)
	w.Add(rec(1, "abc"))
	w.Finish()
	want(t, "open", s.Stats().Open, 1)
	synced, _ := s.Synced("out")
	want(t, "synced", synced, 0)
	_, e := f.Write([]byte("x"))
	want(t, "Write", e, api.OK)
}

// P7.3: RunInfo's Sum is the stream's, whatever blocks and packing are.
func TestSumIsTheStreams(t *testing.T) {
	for _, c := range lists() {
		for _, block := range []int{50, 300, 65536} {
			for _, pack := range []bool{false, true} {
				if pack && block < 300 && len(stream(c.l...)) > 20000 {
					continue
				}
				s, w := writer(t, block, pack, api.FsConfig{})
				for _, r := range c.l {
					w.Add(r)
				}
				info, e := w.Finish()
				want(t, "Finish", e, api.OK)
				want(t, c.name, info, infoOf(c.l, block, look(s)))
			}
		}
	}
}

// P7.4: without packing all blocks are stored; with it they are packed, where that is shorter, and the head says so.
func TestPacking(t *testing.T) {
	line := bytes.Repeat([]byte("abc"), 400)
	rec := api.Rec{Seq: 5, Line: string(line)}
	raw := stream(rec)
	file := join(head(1, 600), packed(t, raw[:600]), packed(t, raw[600:1200]), stored(raw[1200:]), foot(1, 1203, 3))
	if b := runBytes(t, []api.Rec{rec}, 600, true); !bytes.Equal(b, file) {
		t.Errorf("packed: %s, want %s", hex(b), hex(file))
	}
	if b := runBytes(t, []api.Rec{rec}, 600, false); !bytes.Equal(b, plain(raw, 600, 1)) {
		t.Errorf("stored: %s", hex(b))
	}
	s, w := writer(t, 600, true, api.FsConfig{})
	want(t, "Add", w.Add(rec), api.OK)
	holds(t, s, file[:len(file)-25-19], 3)
	w.Finish()
	holds(t, s, file, 5)
}

// P7.11: the errors in their order; ErrRecord wherever the record stands.
func TestBytesRefuses(t *testing.T) {
	long := api.Rec{Line: xs(api.MaxLine + 1)}
	for _, block := range []int{0, -1, api.MaxBlock + 1, 1 << 40} {
		for _, l := range [][]api.Rec{nil, {long}} {
			b, e := spill.Bytes(l, block, false)
			want(t, "Bytes", e, api.ErrArg)
			want(t, "none", b == nil, true)
		}
	}
	for _, l := range [][]api.Rec{{long}, {{}, long}, {long, {}}, slices.Concat(make([]api.Rec, 70000), []api.Rec{long})} {
		b, e := spill.Bytes(l, 1, false)
		want(t, "Bytes", e, api.ErrRecord)
		want(t, "none", b == nil, true)
	}
}

// P7.11: what Create, Adds and Finish lay down.
func TestBytesAreTheWriters(t *testing.T) {
	for _, c := range lists() {
		for _, block := range []int{1, 2, 3, 13, 512, 65535, 65536} {
			for _, pack := range []bool{false, true} {
				if block < 512 && len(stream(c.l...)) > 5000 {
					continue
				}
				s, w := writer(t, block, pack, api.FsConfig{})
				for _, r := range c.l {
					w.Add(r)
				}
				w.Finish()
				if b := runBytes(t, c.l, block, pack); !bytes.Equal(b, look(s)) {
					t.Errorf("%s, block %d, %v: %s, want %s", c.name, block, pack, hex(b), hex(look(s)))
				}
			}
		}
	}
}
