package lineio_test

import (
	"strings"
	"testing"

	"mill/api"
	"mill/lineio"
)

// P2.8: a Write is made just when a whole piece is there, and of just that piece.
func TestPutWritesPieces(t *testing.T) {
	s, w := writer(t, 3, '\n', api.FsConfig{})
	want(t, "Put", w.Put("a"), api.OK)
	wrote(t, s, "", 0)
	want(t, "Put", w.Put(""), api.OK)
	wrote(t, s, "a\n\n", 1)
	want(t, "Put", w.Put("bcdefgh"), api.OK)
	wrote(t, s, "a\n\nbcdefg", 3)
	want(t, "Put", w.Put(""), api.OK)
	wrote(t, s, "a\n\nbcdefgh\n\n", 4)
	stat(t, w, 4, 12, 12)
	want(t, "Flush", w.Flush(), api.OK)
	wrote(t, s, "a\n\nbcdefgh\n\n", 4)
}

// P2.8: a buffer of one byte writes each byte by itself, and leaves nothing to a Flush.
func TestBufferOfOneByte(t *testing.T) {
	s, w := writer(t, 1, 0, api.FsConfig{})
	want(t, "Put", w.Put("ab"), api.OK)
	wrote(t, s, "ab\x00", 3)
	want(t, "Raw", w.Raw("cd"), api.OK)
	wrote(t, s, "ab\x00cd", 5)
	want(t, "Flush", w.Flush(), api.OK)
	wrote(t, s, "ab\x00cd", 5)
}

// pieces writes, with the nth Write refused, and tells what the file has got by then.
func pieces(t *testing.T, size, nth int) string {
	t.Helper()
	s, w := writer(t, size, '\n', api.FsConfig{Faults: []api.Fault{{Op: api.OpWrite, Nth: nth}}})
	want(t, "Raw", w.Raw("12345678"), api.ErrIO)
	got, _ := s.Look("out")
	return string(got)
}

// P2.8, P2.9: the pieces are of size bytes each.
func TestPieces(t *testing.T) {
	want(t, "first", pieces(t, 3, 1), "")
	want(t, "second", pieces(t, 3, 2), "123")
	want(t, "second of two", pieces(t, 4, 2), "1234")
	want(t, "eighth of eight", pieces(t, 1, 8), "1234567")
}

// P2.8: the limit of a line, for buffers of all kinds; one past it changes nothing and doesn't stand.
func TestPutLong(t *testing.T) {
	for _, size := range []int{1, 512, 65535, 65536} {
		s, w := writer(t, size, '\n', api.FsConfig{})
		want(t, "Put", w.Put("a"), api.OK)
		before := s.Stats()
		want(t, "too long", w.Put(xs(65537)), api.ErrLong)
		want(t, "too long, with a separator", w.Put(xs(65536)+"\n"), api.ErrLong)
		want(t, "much too long", w.Put(xs(1<<20)), api.ErrLong)
		want(t, "calls", s.Stats() == before, true)
		want(t, "Err", w.Err(), api.OK)
		want(t, "at the limit", w.Put(xs(65536)), api.OK)
		want(t, "Flush", w.Flush(), api.OK)
		wrote(t, s, "a\n"+xs(65536)+"\n", (2+65537+size-1)/size)
		stat(t, w, 2, 2+65537, 2+65537)
	}
}

// P2.8: a line that holds the separator is refused wherever it stands, changes nothing and doesn't stand.
func TestPutInner(t *testing.T) {
	for _, sep := range []byte{'\n', 0} {
		inner := string([]byte{sep})
		other := string([]byte{'\n' - sep})
		s, w := writer(t, 4, sep, api.FsConfig{})
		want(t, "Put", w.Put("ab"), api.OK)
		for _, l := range []string{inner, inner + "a", "a" + inner, "a" + inner + "b", xs(65535) + inner} {
			want(t, "inner", w.Put(l), api.ErrInner)
		}
		wrote(t, s, "", 0)
		stat(t, w, 1, 3, 0)
		want(t, "Err", w.Err(), api.OK)
		want(t, "the other separator", w.Put(other), api.OK)
		want(t, "Flush", w.Flush(), api.OK)
		wrote(t, s, "ab"+inner+other+inner, 2)
	}
}

// P2.9: Raw takes any bytes of any length, none too; they are no line.
func TestRaw(t *testing.T) {
	s, w := writer(t, 4, '\n', api.FsConfig{})
	want(t, "Raw", w.Raw(""), api.OK)
	want(t, "Raw", w.Raw("a\nb"), api.OK)
	wrote(t, s, "", 0)
	stat(t, w, 0, 3, 0)
	want(t, "Put", w.Put(""), api.OK)
	wrote(t, s, "a\nb\n", 1)
	stat(t, w, 1, 4, 4)
	want(t, "Raw", w.Raw("\x00\xff\n\n\n"), api.OK)
	wrote(t, s, "a\nb\n\x00\xff\n\n", 2)
	want(t, "Flush", w.Flush(), api.OK)
	wrote(t, s, "a\nb\n\x00\xff\n\n\n", 3)
	stat(t, w, 1, 9, 9)
}

// P2.9: a text far above a line's and a buffer's limit.
func TestRawLong(t *testing.T) {
	text := strings.Repeat("0123456789\n", 50000)
	for _, size := range []int{1, 7, 512, 65535, 65536} {
		s, w := writer(t, size, '\n', api.FsConfig{})
		want(t, "Raw", w.Raw("x"), api.OK)
		want(t, "Raw", w.Raw(text), api.OK)
		whole := (1 + len(text)) / size * size
		wrote(t, s, ("x" + text)[:whole], whole/size)
		want(t, "Flush", w.Flush(), api.OK)
		wrote(t, s, "x"+text, (1+len(text)+size-1)/size)
		stat(t, w, 0, 1+len(text), 1+len(text))
	}
}

// stands tells that an error stands: every call answers it and makes no call, whatever else may be wrong with it.
func stands(t *testing.T, w *lineio.Writer, wanted api.Errno, calls func() int) {
	t.Helper()
	before := calls()
	l, p, k := w.Stat()
	for range 2 {
		for _, e := range []api.Errno{w.Put("a"), w.Put(xs(65537)), w.Put("a\nb"), w.Raw(""), w.Raw("more"), w.Raw(xs(1 << 18)), w.Flush(), w.Err()} {
			want(t, "standing", e, wanted)
		}
	}
	stat(t, w, l, p, k)
	want(t, "calls", calls(), before)
}

// P2.8, P2.11: a refused Write ends it; the line at which it was refused counts, what was not taken does not.
func TestPutRefused(t *testing.T) {
	s, w := writer(t, 4, '\n', api.FsConfig{Faults: []api.Fault{{Op: api.OpWrite, Nth: 2}}})
	calls := func() int { return s.Stats().Calls }
	want(t, "Put", w.Put("abcd"), api.OK)
	want(t, "Put", w.Put("efghijklmn"), api.ErrIO)
	wrote(t, s, "abcd", 2)
	stat(t, w, 2, 16, 4)
	stands(t, w, api.ErrIO, calls)
	wrote(t, s, "abcd", 2)
}

// P2.9: the same of Raw, at its first piece and at one far behind.
func TestRawRefused(t *testing.T) {
	for _, nth := range []int{1, 2, 1000} {
		s, w := writer(t, 512, '\n', api.FsConfig{Faults: []api.Fault{{Op: api.OpWrite, Nth: nth}}})
		calls := func() int { return s.Stats().Calls }
		want(t, "Raw", w.Raw(xs(1<<20)), api.ErrIO)
		wrote(t, s, xs((nth-1)*512), nth)
		stat(t, w, 0, 1<<20, (nth-1)*512)
		stands(t, w, api.ErrIO, calls)
	}
}

// P2.10: the same of Flush.
func TestFlushRefused(t *testing.T) {
	s, w := writer(t, 4, '\n', api.FsConfig{Faults: []api.Fault{{Op: api.OpWrite, Nth: 1, Space: true}}})
	calls := func() int { return s.Stats().Calls }
	want(t, "Flush of nothing", w.Flush(), api.OK)
	want(t, "Put", w.Put("a"), api.OK)
	want(t, "Flush", w.Flush(), api.ErrSpace)
	wrote(t, s, "", 1)
	stat(t, w, 1, 2, 0)
	stands(t, w, api.ErrSpace, calls)
}

// P2.11: where a Write takes some bytes and not all, those count.
func TestWriteTakesSome(t *testing.T) {
	s := system(t, api.FsConfig{})
	calls := func() int { return s.Stats().Calls }
	for _, c := range []struct{ room, size, taken, writes int }{{0, 4, 0, 1}, {3, 4, 3, 1}, {4, 4, 4, 2}, {6, 4, 6, 2}, {6, 64, 6, 1}} {
		want(t, "Arm", s.Arm(api.FsConfig{}), api.OK)
		k := s.Sink(c.room)
		w, e := lineio.NewWriter(k, c.size, '\n')
		want(t, "NewWriter", e, api.OK)
		w.Put("abcdef")
		want(t, "Flush", w.Flush(), api.ErrSpace)
		want(t, "taken", string(k.Taken()), "abcdef\n"[:c.taken])
		want(t, "Writes", s.Stats().By[api.OpWrite], c.writes)
		stat(t, w, 1, 7, c.taken)
		stands(t, w, api.ErrSpace, calls)
	}
}

// P2.8: an error that the power's loss brings stands in the next life too.
func TestWriterInTheDark(t *testing.T) {
	s, w := writer(t, 2, '\n', api.FsConfig{Power: 2})
	calls := func() int { return s.Stats().Calls }
	want(t, "Put", w.Put("a"), api.OK)
	want(t, "Put", w.Put("b"), api.ErrPower)
	want(t, "Reboot", s.Reboot(9), api.OK)
	stands(t, w, api.ErrPower, calls)
	wrote(t, s, "a\n", 0)
}

// P2.10: a Flush writes the whole rest by one Write, and none where there is none.
func TestFlush(t *testing.T) {
	s, w := writer(t, 8, '\n', api.FsConfig{})
	want(t, "Flush", w.Flush(), api.OK)
	wrote(t, s, "", 0)
	for i, l := range []string{"a", "bc", ""} {
		want(t, "Put", w.Put(l), api.OK)
		want(t, "calls", s.Stats().Calls, i)
		want(t, "Flush", w.Flush(), api.OK)
		want(t, "calls", s.Stats().Calls, i+1)
		want(t, "Flush", w.Flush(), api.OK)
		want(t, "calls", s.Stats().Calls, i+1)
	}
	wrote(t, s, "a\nbc\n\n", 3)
	want(t, "Put behind it", w.Put("1234567"), api.OK)
	wrote(t, s, "a\nbc\n\n1234567\n", 4)
}

// P2.11: counts ahead of the first Write and behind a Flush.
func TestStat(t *testing.T) {
	_, w := writer(t, 512, '\n', api.FsConfig{})
	stat(t, w, 0, 0, 0)
	want(t, "Err", w.Err(), api.OK)
	w.Put("")
	w.Put("abc")
	w.Raw("xyz")
	stat(t, w, 2, 8, 0)
	w.Flush()
	stat(t, w, 2, 8, 8)
}

// P2.12: whatever the size, the file has got the join of the lines, by pieces of which only the last is short; and a Reader gives the lines back.
func TestWriterIsJoin(t *testing.T) {
	var lines []string
	for i := range 2000 {
		lines = append(lines, strings.Repeat(string(rune('a'+i%26)), i*i%97))
	}
	lines[500] = xs(api.MaxLine)
	for _, sep := range []byte{'\n', 0} {
		data := string(lineio.Join(lines, sep))
		for _, size := range []int{1, 2, 13, 512, 4096, api.MaxBuf - 1, api.MaxBuf} {
			s, w := writer(t, size, sep, api.FsConfig{})
			for _, l := range lines {
				want(t, "Put", w.Put(l), api.OK)
			}
			wrote(t, s, data[:len(data)/size*size], len(data)/size)
			want(t, "Flush", w.Flush(), api.OK)
			wrote(t, s, data, (len(data)+size-1)/size)
			stat(t, w, len(lines), len(data), len(data))
		}
	}
}

// P2.8 to P2.13: a nil Writer answers, and one that was made by nobody doesn't panic.
func TestNilWriter(t *testing.T) {
	var w *lineio.Writer
	for _, e := range []api.Errno{w.Put("a"), w.Put(xs(65537)), w.Put("\n"), w.Raw(""), w.Raw("a"), w.Flush(), w.Err()} {
		want(t, "nil", e, api.ErrNil)
	}
	stat(t, w, 0, 0, 0)
	for _, first := range []func(*lineio.Writer) api.Errno{
		func(w *lineio.Writer) api.Errno { return w.Put("a") },
		func(w *lineio.Writer) api.Errno { return w.Raw("a") },
		(*lineio.Writer).Flush,
	} {
		bare := &lineio.Writer{}
		first(bare)
		bare.Put("a\x00")
		bare.Raw("a")
		bare.Flush()
		bare.Err()
		bare.Stat()
	}
}

// P2.13, R5: Writers go their own ways.
func TestWritersDoNotTouch(t *testing.T) {
	s := system(t, api.FsConfig{})
	a, b := s.Sink(-1), s.Sink(-1)
	one, _ := lineio.NewWriter(a, 3, '\n')
	two, _ := lineio.NewWriter(b, 5, 0)
	for _, l := range []string{"abc", "", "de"} {
		one.Put(l)
		two.Put(l + l)
	}
	one.Flush()
	two.Flush()
	want(t, "one", string(a.Taken()), "abc\n\nde\n")
	want(t, "two", string(b.Taken()), "abcabc\x00\x00dede\x00")
}
