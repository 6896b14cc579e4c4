package lineio_test

import (
	"slices"
	"strings"
	"testing"

	"mill/api"
	"mill/lineio"
	"mill/simfs"
)

// both asks for a Reader and a Writer; there is one just if the answer is OK, and it is the same of both.
func both(t *testing.T, f *simfs.File, size int, sep byte, wanted api.Errno) {
	t.Helper()
	r, e := lineio.NewReader(f, size, sep)
	if e != wanted || (r != nil) != (e == api.OK) {
		t.Errorf("NewReader(%d, %d): %v, %d, want %d", size, sep, r, e, wanted)
	}
	w, e := lineio.NewWriter(f, size, sep)
	if e != wanted || (w != nil) != (e == api.OK) {
		t.Errorf("NewWriter(%d, %d): %v, %d, want %d", size, sep, w, e, wanted)
	}
}

// P2.3: what may not be, and of several reasons the first.
func TestMake(t *testing.T) {
	s := system(t, api.FsConfig{})
	f := open(t, s, "f", api.ModeNew, api.FsConfig{})
	for _, size := range []int{1, 2, 512, api.MaxBuf - 1, api.MaxBuf} {
		both(t, f, size, '\n', api.OK)
		both(t, f, size, 0, api.OK)
	}
	for _, size := range []int{0, -1, api.MaxBuf + 1, 1 << 40, -1 << 63, 1<<63 - 1} {
		both(t, f, size, '\n', api.ErrBuf)
		both(t, f, size, 'x', api.ErrBuf)
		both(t, nil, size, 'x', api.ErrNil)
	}
	for sep := range 256 {
		if sep != '\n' && sep != 0 {
			both(t, f, 1, byte(sep), api.ErrSep)
		}
		both(t, nil, 1, byte(sep), api.ErrNil)
	}
	want(t, "calls", s.Stats().Calls, 0)
}

// P2.3: whether the file fits shows at the first call of it, not before.
func TestMakeOnWhatDoesNotFit(t *testing.T) {
	s := system(t, api.FsConfig{})
	closed := s.Input([]byte("a\n"))
	closed.Close()
	for _, c := range []struct {
		f     *simfs.File
		first api.Errno
	}{{s.Sink(-1), api.ErrMode}, {open(t, s, "f", api.ModeNew, api.FsConfig{}), api.ErrMode}, {closed, api.ErrClosed}, {&simfs.File{}, api.ErrNil}} {
		r, e := lineio.NewReader(c.f, 1, '\n')
		want(t, "NewReader", e, api.OK)
		want(t, "Err", r.Err(), api.OK)
		_, ok, e := r.Next()
		want(t, "Next", ok, false)
		want(t, "Next", e, c.first)
		want(t, "Err", r.Err(), c.first)
	}
	for _, c := range []struct {
		f     *simfs.File
		first api.Errno
	}{{s.Input(nil), api.ErrMode}, {closed, api.ErrClosed}, {&simfs.File{}, api.ErrNil}} {
		w, e := lineio.NewWriter(c.f, 9, '\n')
		want(t, "NewWriter", e, api.OK)
		want(t, "Put", w.Put("a"), api.OK)
		want(t, "Err", w.Err(), api.OK)
		want(t, "Flush", w.Flush(), c.first)
		want(t, "Err", w.Err(), c.first)
	}
}

// P2.3: neither closes the file, and a Reader begins where the File stands.
func TestNeitherCloses(t *testing.T) {
	s := system(t, api.FsConfig{})
	w := open(t, s, "f", api.ModeNew, api.FsConfig{})
	k, _ := lineio.NewWriter(w, 2, '\n')
	want(t, "Put", k.Put("abc"), api.OK)
	want(t, "Put", k.Put("d"), api.OK)
	want(t, "Flush", k.Flush(), api.OK)
	want(t, "Close", w.Close(), api.OK)
	f := open(t, s, "f", api.ModeRead, api.FsConfig{})
	f.Read(2)
	r, _ := lineio.NewReader(f, 2, '\n')
	equal(t, "lines", slices.Collect(r.All()), []string{"c", "d"})
	want(t, "open", s.Stats().Open, 1)
	want(t, "Close", f.Close(), api.OK)
}

// P2.4: a line is given as soon as its separator is there, and no Read is made that it doesn't need.
func TestReadsOnlyForALine(t *testing.T) {
	s, r := reader(t, "a\n\nbc\nd", 64, '\n', api.FsConfig{Short: []int{4, 1, 2}})
	line(t, s, r, "a", 1) // a \n \n b
	line(t, s, r, "", 1)
	line(t, s, r, "bc", 3) // c, then \n d
	line(t, s, r, "d", 4)
	for range 3 {
		noLine(t, s, r, api.OK, 4)
	}
}

// P2.4: an empty file, and one that ends with its separator, has no line behind it; the end is asked for once.
func TestEnd(t *testing.T) {
	s, r := reader(t, "", 4, '\n', api.FsConfig{})
	noLine(t, s, r, api.OK, 1)
	noLine(t, s, r, api.OK, 1)
	want(t, "Whole", r.Whole(), true)
	want(t, "Lines", r.Lines(), 0)
	s, r = reader(t, "a\n", 4, '\n', api.FsConfig{})
	line(t, s, r, "a", 1)
	noLine(t, s, r, api.OK, 2)
	noLine(t, s, r, api.OK, 2)
	want(t, "Whole", r.Whole(), true)
	want(t, "Lines", r.Lines(), 1)
}

// P2.4: every byte but the separator is a line's byte.
func TestAllBytes(t *testing.T) {
	for _, sep := range []byte{'\n', 0} {
		var all []byte
		for b := range 256 {
			if byte(b) != sep {
				all = append(all, byte(b))
			}
		}
		text := string(all)
		sepText := string([]byte{sep})
		_, r := reader(t, text+sepText+sepText+text, 7, sep, api.FsConfig{})
		equal(t, "lines", slices.Collect(r.All()), []string{text, "", text})
		want(t, "Whole", r.Whole(), false)
	}
}

// P2.4: the limit of a line, for buffers of all kinds. A Read may bring bytes behind the limit, a separator too: that changes nothing.
func TestLongLine(t *testing.T) {
	for _, size := range []int{1, 512, 65535, 65536} {
		calls := func(n int) int { return (n + size - 1) / size }
		s, r := reader(t, "ab\n"+xs(65536)+"\ncd\n", size, '\n', api.FsConfig{})
		line(t, s, r, "ab", calls(3))
		line(t, s, r, xs(65536), calls(3+65537))
		line(t, s, r, "cd", calls(3+65537+3))
		noLine(t, s, r, api.OK, calls(3+65537+3)+1)

		s, r = reader(t, "ab\n"+xs(65536), size, '\n', api.FsConfig{})
		line(t, s, r, "ab", calls(3))
		line(t, s, r, xs(65536), calls(3+65536)+1)
		want(t, "Whole", r.Whole(), false)
		noLine(t, s, r, api.OK, calls(3+65536)+1)

		for _, tail := range []string{"", "\n", "\ncd\n", xs(99), xs(70000) + "\n"} {
			s, r = reader(t, "ab\n"+xs(65537)+tail, size, '\n', api.FsConfig{})
			line(t, s, r, "ab", calls(3))
			for range 3 {
				noLine(t, s, r, api.ErrLong, calls(3+65537))
			}
			want(t, "Lines", r.Lines(), 1)
			want(t, "Whole", r.Whole(), true)
		}
	}
}

// P2.4: each reason for which a Read may be refused stands, and what was read ahead of it is never given.
func TestReadRefused(t *testing.T) {
	for nth := 1; nth <= 6; nth++ {
		s, r := reader(t, "a\nbcd\n", 1, '\n', api.FsConfig{Faults: []api.Fault{{Op: api.OpRead, Nth: nth}}})
		if nth > 2 {
			line(t, s, r, "a", 2)
		}
		for range 3 {
			noLine(t, s, r, api.ErrIO, nth)
		}
	}
	s, r := reader(t, "a\nb\n", 2, '\n', api.FsConfig{Power: 2})
	line(t, s, r, "a", 1)
	noLine(t, s, r, api.ErrPower, 2)
	want(t, "Reboot", s.Reboot(0), api.OK)
	noLine(t, s, r, api.ErrPower, 0)
	s, r = reader(t, "a\nb\n", 2, '\n', api.FsConfig{})
	line(t, s, r, "a", 1)
	want(t, "Reboot", s.Reboot(0), api.OK)
	noLine(t, s, r, api.ErrClosed, 1)
	noLine(t, s, r, api.ErrClosed, 1)
}

// P2.4: lines that came in one piece ahead of the refused Read are all given.
func TestLinesAheadOfARefusedRead(t *testing.T) {
	s, r := reader(t, "a\nb\nc\nd", 64, '\n', api.FsConfig{Faults: []api.Fault{{Op: api.OpRead, Nth: 2}}})
	line(t, s, r, "a", 1)
	line(t, s, r, "b", 1)
	line(t, s, r, "c", 1)
	noLine(t, s, r, api.ErrIO, 2)
	want(t, "Lines", r.Lines(), 3)
	want(t, "Whole", r.Whole(), true)
}

// P2.4: an interrupt is none of a Reader's matters.
func TestReadBehindAnInterrupt(t *testing.T) {
	s, r := reader(t, "a\nb\n", 2, '\n', api.FsConfig{Interrupt: 1})
	line(t, s, r, "a", 1)
	line(t, s, r, "b", 2)
	noLine(t, s, r, api.OK, 3)
}

// P2.5: large files, by all kinds of buffers and of short Reads, have the lines of Split.
func TestReaderIsSplit(t *testing.T) {
	var b strings.Builder
	for i := range 3000 {
		b.WriteString(strings.Repeat(string(rune('a'+i%26)), i*i%211))
		b.WriteString("\n")
		if i%1000 == 500 {
			b.WriteString(xs(api.MaxLine-i) + "\n")
		}
	}
	b.WriteString("the last one")
	data := b.String()
	lines, _ := lineio.Split([]byte(data), '\n')
	for _, size := range []int{1, 2, 13, 512, 4096, api.MaxBuf - 1, api.MaxBuf} {
		for _, short := range [][]int{nil, {1}, {700, 1, 65536, 3}} {
			_, r := reader(t, data, size, '\n', api.FsConfig{Short: short})
			equal(t, "lines", slices.Collect(r.All()), lines)
			want(t, "Err", r.Err(), api.OK)
			want(t, "Whole", r.Whole(), false)
			want(t, "Lines", r.Lines(), len(lines))
		}
	}
}

// P2.5: of a file with a line too long, those ahead of it are given, whatever the buffer.
func TestReaderUpToALongLine(t *testing.T) {
	for _, size := range []int{1, 3, 512, api.MaxBuf} {
		for _, tail := range []string{"", "\n", "\nmore\n"} {
			_, r := reader(t, "a\n\nbc\n"+xs(api.MaxLine+1)+tail, size, '\n', api.FsConfig{})
			equal(t, "lines", slices.Collect(r.All()), []string{"a", "", "bc"})
			want(t, "Err", r.Err(), api.ErrLong)
			want(t, "Lines", r.Lines(), 3)
		}
	}
}

// P2.6: a loop takes a line when it is asked for it, and leaves the others to whoever asks next.
func TestAllStopsEarly(t *testing.T) {
	s, r := reader(t, "a\nb\nc\nd\ne\nf\n", 4, '\n', api.FsConfig{})
	all := r.All()
	reads(t, s, 0)
	for l := range all {
		want(t, "first", l, "a")
		reads(t, s, 1)
		break
	}
	want(t, "Lines", r.Lines(), 1)
	line(t, s, r, "b", 1)
	for l := range r.All() {
		want(t, "third", l, "c")
		reads(t, s, 2)
		line(t, s, r, "d", 2)
		break
	}
	for l := range all {
		want(t, "fifth", l, "e")
		reads(t, s, 3)
		equal(t, "within", slices.Collect(all), []string{"f"})
	}
	want(t, "Lines", r.Lines(), 6)
	equal(t, "behind the end", slices.Collect(r.All()), nil)
	reads(t, s, 4)
}

// P2.6: a loop ends at an error, which Err tells.
func TestAllEndsAtAnError(t *testing.T) {
	s, r := reader(t, "a\nb\nc", 2, '\n', api.FsConfig{Faults: []api.Fault{{Op: api.OpRead, Nth: 3}}})
	equal(t, "lines", slices.Collect(r.All()), []string{"a", "b"})
	want(t, "Err", r.Err(), api.ErrIO)
	equal(t, "lines", slices.Collect(r.All()), nil)
	reads(t, s, 3)
}

// P2.6, P2.13: a loop that is asked for by nobody, or that is left by a panic, loses no line that it didn't give.
func TestAllWithoutALoop(t *testing.T) {
	s, r := reader(t, "a\nb\n", 9, '\n', api.FsConfig{})
	r.All()(nil)
	reads(t, s, 0)
	func() {
		defer func() { want(t, "panic", recover(), any("mine")) }()
		for range r.All() {
			panic("mine")
		}
	}()
	want(t, "Lines", r.Lines(), 1)
	line(t, s, r, "b", 1)
}

// P2.7: Whole and Lines tell of what was given, not of what was read.
func TestWholeAndLines(t *testing.T) {
	s, r := reader(t, "a\nb", 64, '\n', api.FsConfig{})
	want(t, "Whole", r.Whole(), true)
	want(t, "Lines", r.Lines(), 0)
	want(t, "Err", r.Err(), api.OK)
	line(t, s, r, "a", 1)
	want(t, "Whole", r.Whole(), true)
	want(t, "Lines", r.Lines(), 1)
	line(t, s, r, "b", 2)
	want(t, "Whole", r.Whole(), false)
	want(t, "Lines", r.Lines(), 2)
	noLine(t, s, r, api.OK, 2)
	want(t, "Whole", r.Whole(), false)
	want(t, "Lines", r.Lines(), 2)
}

// P2.4, P2.6, P2.7, P2.13: a nil Reader answers, and one that was made by nobody doesn't panic.
func TestNilReader(t *testing.T) {
	var r *lineio.Reader
	l, ok, e := r.Next()
	want(t, "Next", l, "")
	want(t, "Next", ok, false)
	want(t, "Next", e, api.ErrNil)
	equal(t, "All", slices.Collect(r.All()), nil)
	want(t, "Whole", r.Whole(), false)
	want(t, "Lines", r.Lines(), 0)
	want(t, "Err", r.Err(), api.ErrNil)
	bare := &lineio.Reader{}
	bare.Next()
	for range bare.All() {
	}
	bare.Whole()
	bare.Lines()
	bare.Err()
}

// P2.13, R5: Readers of one file go their own ways.
func TestReadersDoNotTouch(t *testing.T) {
	s, one := reader(t, "a\nb\nc\n", 3, '\n', api.FsConfig{})
	f := open(t, s, "in", api.ModeRead, api.FsConfig{})
	two, _ := lineio.NewReader(f, 1, '\n')
	for _, l := range []string{"a", "b", "c"} {
		x, _, _ := one.Next()
		y, _, _ := two.Next()
		want(t, "one", x, l)
		want(t, "two", y, l)
	}
}
