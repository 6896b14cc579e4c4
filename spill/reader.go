package spill

import (
	"mill/api"
	"mill/simfs"
	"mill/squeeze"
)

// Reader reads a run.
type Reader struct {
	file   *simfs.File
	buf    int
	rest   queue // bytes that were read and not used
	ended  bool  // the file's end has been seen
	block  int   // what the head says
	pack   bool
	stream queue       // bytes of the stream that were unpacked and not given
	size   int         // how many were unpacked
	info   api.RunInfo // of what was used so far: so the rest begins at info.Bytes
	last   int         // where the block begins that was unpacked last
	over   bool        // the end of the run has been reached
	err    api.Errno
	place  int // where the piece begins in which the error was found
}

// Open begins to read a run file, buf bytes at a time.
func Open(f *simfs.File, buf int) (*Reader, api.Errno) {
	if f == nil {
		return nil, api.ErrNil
	}
	if buf < 1 || buf > api.MaxBuf {
		return nil, api.ErrArg
	}
	r := &Reader{file: f, buf: buf}
	if e := r.open(); e != api.OK {
		return nil, e
	}
	return r, api.OK
}

// Next gives the next record, if there is one.
func (r *Reader) Next() (api.Rec, bool, api.Errno) {
	if r == nil {
		return api.Rec{}, false, api.ErrNil
	}
begin:
	if r.err != api.OK {
		return api.Rec{}, false, r.err
	}
	rec, n := firstRecord(r.stream.bytes())
	if n < 0 {
		r.fail(api.ErrSpoilt, r.last)
		goto begin
	}
	if n > 0 {
		r.stream.leave(n)
		r.info.Records++
		return rec, true, api.OK
	}
	if r.over {
		return api.Rec{}, false, api.OK
	}
	if r.lacks(1) {
		goto begin
	}
	switch r.rest.bytes()[0] {
	case footMark:
		r.takeFoot()
	case blockMark:
		r.takeBlock()
	default:
		r.fail(api.ErrSpoilt, r.info.Bytes)
	}
	goto begin
}

// Info tells, behind the end, what the file is.
func (r *Reader) Info() (api.RunInfo, api.Errno) {
	switch {
	case r == nil:
		return api.RunInfo{}, api.ErrNil
	case r.err != api.OK:
		return api.RunInfo{}, r.err
	case !r.over:
		return api.RunInfo{}, api.ErrDone
	}
	return r.info, api.OK
}

// open takes the head off.
func (r *Reader) open() api.Errno {
begin:
	if r.err != api.OK {
		return r.err
	}
	if r.lacks(headSize) {
		goto begin
	}
	h := r.rest.bytes()[:headSize]
	r.pack = h[packAt] == 1
	r.block = int(number(h[blockAt:headSumAt]))
	switch {
	case string(h[:packAt]) != magic || h[packAt] > 1:
		r.fail(api.ErrSpill, 0)
	case number(h[headSumAt:]) != uint64(squeeze.Sum(h[:headSumAt])):
		r.fail(api.ErrSpoilt, 0)
	case !isBlock(r.block):
		r.fail(api.ErrSpill, 0)
	default:
		r.use(headSize)
	}
	return r.err
}

// takeBlock takes a block off, if it is there whole: its raw bytes join the stream's.
func (r *Reader) takeBlock() {
	if r.lacks(blockHead) {
		return
	}
	p, _, e := squeeze.Look(r.rest.bytes()[:blockHead])
	if e != api.OK {
		r.fail(api.ErrSpoilt, r.info.Bytes)
		return
	}
	if r.lacks(p.Size) {
		return
	}
	raw, _, e := squeeze.Unpack(r.rest.bytes()[:p.Size], r.block)
	// Only the last block may have fewer bytes than the head says: so those ahead of this one were all full.
	behindShort := r.size < r.info.Blocks*r.block
	if e != api.OK || len(raw) == 0 || behindShort || !r.pack && p.Mode != stored {
		r.fail(api.ErrSpoilt, r.info.Bytes)
		return
	}
	r.last = r.info.Bytes
	r.use(p.Size)
	r.size += len(raw)
	r.info.Blocks++
	r.info.Sum = squeeze.SumMore(r.info.Sum, raw)
	r.stream.join(raw)
}

// takeFoot takes the foot off, if it is there whole and the file's end has been seen.
func (r *Reader) takeFoot() {
	if r.lacks(footSize) {
		return
	}
	f := r.rest.bytes()
	switch {
	case [footSize]byte(f) != footOf(r.info, r.size) || len(r.stream.bytes()) > 0:
		r.fail(api.ErrSpoilt, r.info.Bytes)
	case len(f) > footSize:
		r.fail(api.ErrSpoilt, r.info.Bytes+footSize)
	case !r.ended:
		r.read()
	default:
		r.use(footSize)
		r.over = true
	}
}

// lacks tells whether fewer than n bytes are there, and does then what there is to do: it reads, or, where nothing comes any more, says so.
func (r *Reader) lacks(n int) bool {
	there := len(r.rest.bytes())
	if there >= n {
		return false
	}
	if r.ended {
		r.fail(api.ErrTorn, r.info.Bytes+there)
	} else {
		r.read()
	}
	return true
}

// read makes one Read.
func (r *Reader) read() {
	b, e := r.file.Read(r.buf)
	r.err = e
	r.ended = e == api.OK && len(b) == 0
	r.rest.join(b)
}

// use takes the n bytes of a piece off the rest.
func (r *Reader) use(n int) {
	r.rest.leave(n)
	r.info.Bytes += n
}

// fail lets an error stand.
func (r *Reader) fail(e api.Errno, place int) { r.err, r.place = e, place }
