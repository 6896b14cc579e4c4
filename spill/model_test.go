package spill_test

import (
	"bytes"
	"encoding/binary"
	"hash/crc32"
	"math/big"
	"math/rand"
	"testing"

	"mill/api"
	"mill/spill"
	"mill/squeeze"
)

// The model says P7.5 to P7.10 once more, by other means: it begins at the file's first byte each time, and says of what has been read so far, and of whether that is all, what a Next answers, or how many bytes it takes to say so.

type outcome struct {
	rec   api.Rec
	ok    bool
	info  api.RunInfo // of an end
	e     api.Errno
	place int
	wants int // more than has been read, of a file whose end has not been seen
}

// modelFile is what has been read; what it gives is thrown.
type modelFile struct {
	b     []byte
	ended bool
	at    int
}

// next gives n bytes at the place where it stands.
func (m *modelFile) next(n int) []byte {
	if len(m.b) < m.at+n && !m.ended {
		panic(outcome{wants: m.at + n})
	}
	if len(m.b) < m.at+n {
		panic(outcome{e: api.ErrTorn, place: len(m.b)})
	}
	return m.b[m.at : m.at+n]
}

func must(holds bool, e api.Errno, place int) {
	if !holds {
		panic(outcome{e: e, place: place})
	}
}

// whole tells whether there is a whole number in groups, and whether what is there may be.
func whole(b []byte) (n *big.Int, size int, may bool) {
	n = new(big.Int)
	for size < len(b) && size < 10 {
		x := b[size]
		n.Or(n, new(big.Int).Lsh(big.NewInt(int64(x&127)), uint(7*size)))
		size++
		if x < 128 {
			return n, size, n.IsUint64() && bytes.Equal(binary.AppendUvarint(nil, n.Uint64()), b[:size])
		}
	}
	return n, 0, size < 10
}

// said gives what the Next number k, from 0 on, answers.
func (m modelFile) said(k int) (o outcome) {
	defer func() { o = recover().(outcome) }()
	h := m.next(14)
	must(string(h[:5]) == "MRUN\x01" && h[5] < 2, api.ErrSpill, 0)
	must(bytes.Equal(withSum(h[:10]), h), api.ErrSpoilt, 0)
	block := int(binary.BigEndian.Uint32(h[6:]))
	must(block > 0 && block <= 65536, api.ErrSpill, 0)
	if k < 0 {
		panic(outcome{})
	}
	m.at = 14
	var all, left []byte
	last, blocks, given, short := 0, 0, 0, false
	for {
		left = records(left, last, k, &given)
		switch m.next(1)[0] {
		case 0xF7:
			must(bytes.Equal(m.next(25), foot(uint64(given), uint64(len(all)), uint32(blocks))) && len(left) == 0, api.ErrSpoilt, m.at)
			m.at += 25
			if !m.ended {
				m.next(1)
			}
			must(len(m.b) == m.at, api.ErrSpoilt, m.at)
			panic(outcome{info: api.RunInfo{Records: given, Bytes: m.at, Blocks: blocks, Sum: crc32.ChecksumIEEE(all)}})
		case 0xB5:
			first := m.next(12)
			must(bytes.Equal(withSum(first[:8]), first), api.ErrSpoilt, m.at)
			size := 16 + int(first[5])<<16 + int(first[6])<<8 + int(first[7])
			must(first[1] == 1 && bytes.Equal(first[2:5], first[5:8]) || first[1] == 2 && size > 16 && string(first[2:5]) > "\x00\x00\x00", api.ErrSpoilt, m.at)
			raw, _, e := squeeze.Unpack(m.next(size), 1<<24)
			must(e == api.OK && len(raw) > 0 && len(raw) <= block && !short && int(first[1]) <= 1+int(h[5]), api.ErrSpoilt, m.at)
			last, short = m.at, len(raw) < block
			m.at += size
			blocks++
			all, left = append(all, raw...), append(left, raw...)
		default:
			must(false, api.ErrSpoilt, m.at)
		}
	}
}

// records takes records off until the one number k.
func records(left []byte, last, k int, given *int) []byte {
	for len(left) > 0 {
		seq, n, may := whole(left)
		must(may, api.ErrSpoilt, last)
		if n == 0 {
			return left
		}
		length, m, may := whole(left[n:])
		must(may && (m == 0 || length.Cmp(big.NewInt(65536)) <= 0), api.ErrSpoilt, last)
		if m == 0 || len(left)-n-m < int(length.Int64()) {
			return left
		}
		end := n + m + int(length.Int64())
		if *given == k {
			panic(outcome{rec: rec(seq.Uint64(), string(left[n+m:end])), ok: true})
		}
		*given++
		left = left[end:]
	}
	return left
}

// modelReader asks the model as often as a Reader asks its file.
type modelReader struct {
	file   []byte
	seen   modelFile
	buf    int
	short  []int
	refuse int // this Read is refused
	reads  int
	next   int
	err    api.Errno
}

// answer is what the next call gives: Open's, where next is -1.
func (m *modelReader) answer() outcome {
	for {
		if m.err != api.OK {
			return outcome{e: m.err}
		}
		o := m.seen.said(m.next)
		if o.wants == 0 {
			m.err = o.e
			if o.ok || m.next < 0 {
				m.next++
			}
			return o
		}
		m.reads++
		if m.reads == m.refuse {
			m.err = api.ErrIO
			continue
		}
		n := min(m.buf, len(m.file)-len(m.seen.b))
		if len(m.short) > 0 {
			n = min(n, m.short[(m.reads-1)%len(m.short)])
		}
		m.seen.ended = n == 0
		m.seen.b = m.file[:len(m.seen.b)+n]
	}
}

// walk goes through a run on both, to its end or fault and a little further.
func (m *modelReader) walk(t *testing.T) {
	t.Helper()
	s := system(t, api.FsConfig{Short: m.short})
	if m.refuse > 0 {
		s.Arm(api.FsConfig{Short: m.short, Faults: []api.Fault{{Op: api.OpRead, Nth: m.refuse}}})
	}
	r, e := spill.Open(s.Input(m.file), m.buf)
	m.next = -1
	if o := m.answer(); e != o.e || (r == nil) != (o.e != api.OK) || s.Stats().Calls != m.reads {
		t.Fatalf("%s, buf %d, short %v, refused %d: Open: %d, %d Reads, want %d, %d", hex(m.file), m.buf, m.short, m.refuse, e, s.Stats().Calls, o.e, m.reads)
	}
	for behind := 0; behind < 2 && e == api.OK; {
		o := m.answer()
		got, ok, ge := r.Next()
		if got != o.rec || ok != o.ok || ge != o.e || s.Stats().Calls != m.reads {
			t.Fatalf("%s, buf %d, short %v, refused %d: Next %d: %v, %v, %d, %d Reads, want %v, %v, %d, %d",
				hex(m.file), m.buf, m.short, m.refuse, m.next, got, ok, ge, s.Stats().Calls, o.rec, o.ok, o.e, m.reads)
		}
		info, ie := r.Info()
		we := o.e
		if o.ok {
			we = api.ErrDone
		}
		if ie != we || info != o.info {
			t.Fatalf("%s, buf %d: Info: %+v, %d, want %+v, %d", hex(m.file), m.buf, info, ie, o.info, we)
		}
		if !ok {
			behind++
		}
	}
}

// scan holds Scan against the model.
func scan(t *testing.T, file []byte) {
	t.Helper()
	m := modelFile{b: file, ended: true}
	var l []api.Rec
	o := m.said(-1)
	for o.e == api.OK {
		if o = m.said(len(l)); !o.ok {
			break
		}
		l = append(l, o.rec)
	}
	scanned(t, hex(file), file, l, o.info, o.place, o.e)
}

// modelFiles are run files of all short streams of some bytes, right ones and such of which one thing is another.
func modelFiles(do func([]byte)) {
	for _, text := range texts("\x00\x01\x80\x04", 5) {
		raw := []byte(text)
		count := uint64(0) // how many records these are, where their numbers are of one byte; else it is no matter
		for left := raw; len(left) > 1 && len(left) > 1+int(left[1]); count++ {
			left = left[2+left[1]:]
		}
		for block := 1; block < 4; block++ {
			do(plain(raw, block, count))
		}
		do(plain(raw, 2, count+1))
		file := plain(raw, 3, count)
		do(append(file, 0))
		do(join(head(0, 2), file[14:]))
		do(join(head(1, 65536), file[14:]))
		do(file[:len(file)-30%len(file)])
	}
}

// P7.5 to P7.10: short streams, all of them.
func TestReaderAgainstTheModel(t *testing.T) {
	i := 0
	modelFiles(func(file []byte) {
		scan(t, file)
		i++
		for _, buf := range []int{1, 3, 26, 65536} {
			short := [][]int{nil, {2, 1}, {14, 19, 1}}[(i+buf)%3]
			(&modelReader{file: file, buf: buf, short: short, refuse: (i + buf) % 9 * (i % 5)}).walk(t)
		}
	})
}

// P7.5 to P7.10: long runs, whole ones, cut ones, and such in which bytes are others, the sums right and wrong.
func TestLongRunsAgainstTheModel(t *testing.T) {
	r := rand.New(rand.NewSource(77))
	for _, c := range lists() {
		raw := stream(c.l...)
		if len(raw) > 40000 {
			continue
		}
		for _, block := range []int{1000, 64, 7} {
			for _, file := range [][]byte{runBytes(t, c.l[:min(len(c.l), 40)], block, false), runBytes(t, c.l[:min(len(c.l), 40)], block, true)} {
				if len(file) > 6000 {
					continue
				}
				for range 20 {
					b := bytes.Clone(file)
					switch r.Intn(4) {
					case 0:
						b = b[:r.Intn(len(b))]
					case 1:
						b[r.Intn(len(b))] = byte(r.Intn(256))
					case 2:
						at := r.Intn(len(b))
						b = join(b[:at], b[min(len(b), at+r.Intn(30)):])
					}
					scan(t, b)
					m := &modelReader{file: b, buf: 1 + r.Intn(200)}
					if r.Intn(2) > 0 {
						m.short = []int{1 + r.Intn(90), 1 + r.Intn(9)}
					}
					if r.Intn(3) == 0 {
						m.refuse = 1 + r.Intn(20)
					}
					m.walk(t)
				}
			}
		}
	}
}
