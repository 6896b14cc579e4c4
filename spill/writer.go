package spill

import (
	"mill/api"
	"mill/simfs"
	"mill/squeeze"
)

// Writer writes a run.
type Writer struct {
	file  *simfs.File
	maker maker
	done  bool
	err   api.Errno
}

// Create begins a run file whose blocks hold block bytes, packed or not.
func Create(f *simfs.File, block int, pack bool) (*Writer, api.Errno) {
	if f == nil {
		return nil, api.ErrNil
	}
	if !isBlock(block) {
		return nil, api.ErrArg
	}
	w := &Writer{file: f, maker: maker{block: block, pack: pack}}
	if w.write(w.maker.head()); w.err != api.OK {
		return nil, w.err
	}
	return w, api.OK
}

// Add takes a record.
func (w *Writer) Add(r api.Rec) api.Errno {
	if e := w.refusal(); e != api.OK {
		return e
	}
	if !isRecord(r) {
		return api.ErrRecord
	}
	w.maker.add(r)
	for w.err == api.OK && w.maker.full() {
		w.write(w.maker.cut(w.maker.block))
	}
	return w.err
}

// Finish ends the file.
func (w *Writer) Finish() (api.RunInfo, api.Errno) {
	if e := w.refusal(); e != api.OK {
		return api.RunInfo{}, e
	}
	if n := w.maker.left(); n > 0 {
		w.write(w.maker.cut(n))
	}
	if w.err == api.OK {
		w.write(w.maker.foot())
	}
	if w.err != api.OK {
		return api.RunInfo{}, w.err
	}
	w.done = true
	return w.maker.info, api.OK
}

// refusal tells why a Writer takes nothing.
func (w *Writer) refusal() api.Errno {
	switch {
	case w == nil:
		return api.ErrNil
	case w.err != api.OK:
		return w.err
	case w.done:
		return api.ErrDone
	}
	return api.OK
}

// write writes a piece: an error stands.
func (w *Writer) write(piece []byte) { _, w.err = w.file.Write(piece) }

// maker makes the pieces of a run file; where they go is for others to say.
type maker struct {
	block int
	pack  bool
	wait  queue       // bytes of the stream that are in no block yet
	size  int         // how many bytes of the stream are in blocks
	info  api.RunInfo // of the pieces made so far
}

// add lets a record's bytes join those that wait.
func (m *maker) add(r api.Rec) {
	h, n := recordHead(r)
	m.wait.join(h[:n])
	m.wait.b = append(m.wait.b, r.Line...)
	m.info.Records++
}

// left tells how many bytes wait.
func (m *maker) left() int { return len(m.wait.bytes()) }

// full tells whether they fill a block.
func (m *maker) full() bool { return m.left() >= m.block }

// head makes the head.
func (m *maker) head() []byte {
	h := headOf(m.block, m.pack)
	return m.made(h[:])
}

// cut makes a block of the first n bytes that wait.
func (m *maker) cut(n int) []byte {
	raw := m.wait.bytes()[:n]
	m.wait.leave(n)
	m.size += n
	m.info.Blocks++
	m.info.Sum = squeeze.SumMore(m.info.Sum, raw)
	return m.made(m.squeezed(raw))
}

// squeezed gives the block of raw bytes. Layer 6 refuses none of this size.
func (m *maker) squeezed(raw []byte) []byte {
	press := squeeze.Store
	if m.pack {
		press = squeeze.Pack
	}
	b, _ := press(raw)
	return b
}

// foot makes the foot.
func (m *maker) foot() []byte {
	f := footOf(m.info, m.size)
	return m.made(f[:])
}

// made counts a piece's bytes.
func (m *maker) made(piece []byte) []byte {
	m.info.Bytes += len(piece)
	return piece
}
