package spill_test

import (
	"bytes"
	"encoding/binary"
	"strings"
	"testing"

	"mill/api"
	"mill/simfs"
	"mill/spill"
)

// noReader tells that no Reader was made, why, and by how many Reads.
func noReader(t *testing.T, s *simfs.FS, f *simfs.File, buf int, wanted api.Errno, reads int) {
	t.Helper()
	before := s.Stats().Calls
	r, e := spill.Open(f, buf)
	if r != nil || e != wanted {
		t.Errorf("Open(%d): %v, %d, want %d", buf, r != nil, e, wanted)
	}
	want(t, "Reads", s.Stats().Calls-before, reads)
}

// P7.6: the errors in their order, with no Read ahead of them.
func TestOpenRefuses(t *testing.T) {
	s := system(t, api.FsConfig{})
	noReader(t, s, nil, 0, api.ErrNil, 0)
	noReader(t, s, nil, 1, api.ErrNil, 0)
	for _, buf := range []int{0, -1, -1 << 63, api.MaxBuf + 1, 1 << 40} {
		noReader(t, s, s.Input(nil), buf, api.ErrArg, 0)
	}
	for _, buf := range []int{1, api.MaxBuf} {
		_, e := spill.Open(s.Input(plain(nil, 1, 0)), buf)
		want(t, "Open", e, api.OK)
	}
}

// P7.5, P7.6: what a Read answers is handed on, whichever of them it is.
func TestOpenHandsOnErrors(t *testing.T) {
	for nth := 1; nth <= 4; nth++ {
		s := system(t, fault(api.OpRead, nth))
		noReader(t, s, s.Input(plain(nil, 1, 0)), 4, api.ErrIO, nth)
	}
	s := system(t, fault(api.OpRead, 5))
	_, e := spill.Open(s.Input(plain(nil, 1, 0)), 4)
	want(t, "Open", e, api.OK)
	want(t, "Reads", s.Stats().Calls, 4)
	noReader(t, s, s.Sink(-1), 4, api.ErrIO, 1)
	noReader(t, s, s.Sink(-1), 4, api.ErrMode, 1)
	s.Cut()
	noReader(t, s, s.Input(plain(nil, 1, 0)), 4, api.ErrPower, 1)
}

// P7.6: each fault of a head, the one that the chapter names first where there are several.
func TestOpenLooksAtTheHead(t *testing.T) {
	type fault struct {
		what string
		b    []byte
		e    api.Errno
	}
	no := head(0, 0)
	l := []fault{
		{"no size, sum right", no, api.ErrSpill}, {"no size, sum wrong", append(no[:13:13], ^no[13]), api.ErrSpoilt},
		{"too great", head(0, 65537), api.ErrSpill}, {"far too great", head(1, 1<<32-1), api.ErrSpill}, {"the highest bit alone", head(1, 1<<31), api.ErrSpill},
		{"packing 2, sum right", head(2, 3), api.ErrSpill}, {"packing 255", head(255, 3), api.ErrSpill}, {"packing 2, no size", head(2, 0), api.ErrSpill},
	}
	for i := range 14 {
		b, e := head(1, 3), api.ErrSpoilt
		b[i] ^= 2
		if i < 6 {
			e = api.ErrSpill
			l = append(l, fault{"turned, sum right", withSum(b[:10]), e})
		}
		l = append(l, fault{"turned", b, e}, fault{"cut", head(1, 3)[:i], api.ErrTorn}, fault{"cut behind what is turned", join(b[:min(i+1, 13)]), api.ErrTorn})
	}
	for _, c := range l {
		place, reads := 0, 1
		if c.e == api.ErrTorn {
			place, reads = len(c.b), min(len(c.b), 1)+1
		} else {
			faulty(t, c.what, join(c.b, foot(0, 0, 0)), nil, 0, c.e)
		}
		s := system(t, api.FsConfig{})
		noReader(t, s, s.Input(c.b), 14, c.e, reads)
		faulty(t, c.what, c.b, nil, place, c.e)
	}
}

// P7.6: the sizes that may be.
func TestOpenTakesSizes(t *testing.T) {
	for _, block := range []uint32{1, 2, 65535, 65536} {
		for pack := range byte(2) {
			b := join(head(pack, block), foot(0, 0, 0))
			scanned(t, "Scan", b, nil, api.RunInfo{Bytes: 39}, 0, api.OK)
		}
	}
}

// P7.5, P7.7: Reads are made where bytes are wanted, nowhere else; a record is given as soon as its bytes have come.
func TestReadsWhereBytesAreWanted(t *testing.T) {
	a, b := rec(300, "ab"), api.Rec{}
	file := plain(stream(a, b), 3, 2) // 14, 33, 52, 69, 94
	s, r := reader(t, file, 1, api.FsConfig{})
	calls(t, s, api.OpRead, 14)
	gives(t, s, r, a, 52)
	gives(t, s, r, b, 69)
	_, e := r.Info()
	want(t, "Info", e, api.ErrDone)
	ends(t, s, r, api.OK, 95)
	ends(t, s, r, api.OK, 95)

	s, r = reader(t, file, 20, api.FsConfig{})
	calls(t, s, api.OpRead, 1)
	gives(t, s, r, a, 3)
	gives(t, s, r, b, 4)
	ends(t, s, r, api.OK, 6)

	s, r = reader(t, file, 64, api.FsConfig{Short: []int{13, 50, 6}}) // 13, 63, 69, 82, 94, none
	calls(t, s, api.OpRead, 2)
	gives(t, s, r, a, 2)
	gives(t, s, r, b, 3)
	ends(t, s, r, api.OK, 6)

	s, r = reader(t, file, api.MaxBuf, api.FsConfig{})
	gives(t, s, r, a, 1)
	gives(t, s, r, b, 1)
	ends(t, s, r, api.OK, 2)
	ends(t, s, r, api.OK, 2)
}

// P7.5: where the end has been seen nothing is read any more: no torn file makes a second Read behind it.
func TestEndIsSeenOnce(t *testing.T) {
	a := rec(300, "ab")
	file := plain(stream(a), 65536, 1)
	for cut := 14; cut < len(file); cut++ {
		s, r := reader(t, file[:cut], api.MaxBuf, api.FsConfig{})
		if cut >= 35 {
			gives(t, s, r, a, 1)
		}
		for range 3 {
			ends(t, s, r, api.ErrTorn, 2)
		}
		info, e := r.Info()
		want(t, "Info", e, api.ErrTorn)
		want(t, "RunInfo", info, api.RunInfo{})
	}
}

// P7.5, P7.8: the error of any Read stands, also of the one behind the foot, and no record is given twice or lost ahead of it.
func TestErrorsOfReadsStand(t *testing.T) {
	a, b := rec(300, "ab"), api.Rec{}
	file := plain(stream(a, b), 3, 2)
	for nth := 15; nth <= 95; nth++ {
		for _, p := range []struct {
			c api.FsConfig
			e api.Errno
		}{{fault(api.OpRead, nth), api.ErrIO}, {api.FsConfig{Power: nth}, api.ErrPower}} {
			s, r := reader(t, file, 1, p.c)
			if nth > 52 {
				gives(t, s, r, a, 52)
			}
			if nth > 69 {
				gives(t, s, r, b, 69)
			}
			for range 3 {
				ends(t, s, r, p.e, nth)
				info, e := r.Info()
				want(t, "Info", e, p.e)
				want(t, "RunInfo", info, api.RunInfo{})
			}
		}
	}
}

// A fault of what stands behind the head: with it a Reader gives these records first.
type spoilt struct {
	what  string
	b     []byte // behind the head
	l     []api.Rec
	place int // from the end of the head on
	e     api.Errno
}

// tell holds Scan and a Reader against what the chapter says.
func (c spoilt) tell(t *testing.T, first []byte) {
	t.Helper()
	file := join(first, c.b)
	faulty(t, c.what, file, c.l, 14+c.place, c.e)
	for _, buf := range []int{1, 7, 65536} {
		s := system(t, api.FsConfig{})
		r, e := spill.Open(s.Input(file), buf)
		want(t, "Open", e, api.OK)
		for _, rec := range c.l {
			got, ok, e := r.Next()
			if got != rec || !ok || e != api.OK {
				t.Errorf("%s, buf %d: Next: %v, %v, %d, want %v", c.what, buf, got, ok, e, rec)
			}
		}
		for range 2 {
			got, ok, e := r.Next()
			n := s.Stats().Calls
			if got != (api.Rec{}) || ok || e != c.e {
				t.Errorf("%s, buf %d: Next: %v, %v, %d, want errno %d", c.what, buf, got, ok, e, c.e)
			}
			info, e := r.Info()
			want(t, "Info", e, c.e)
			want(t, "RunInfo", info, api.RunInfo{})
			want(t, "no call any more", s.Stats().Calls, n)
		}
	}
}

// P7.7 (1): numbers that may not be: ErrSpoilt stands, at the block that was unpacked last, ahead of all that stands behind it.
func TestNumbersThatMayNotBe(t *testing.T) {
	nine := strings.Repeat("FF", 9)
	for _, bad := range []string{
		"80 00", "FF 00", "80 80 00", "AC 82 00", nine + "02", nine + "7F", nine + "81", nine + "FF", nine + "80", nine + "00", strings.Repeat("80", 9) + "00",
		"05 80 00", "05 81 80 04", "05 81 80 08", "05 FF FF 7F", "05 FF FF FF FF 7F", "05 80 80 80 00", "05" + nine + "01", "05" + nine + "02", "05" + nine + "FF", "05" + nine + "00", "AC 02 84 00",
	} {
		raw := unhex(bad)
		n := uint64(len(raw))
		a := rec(9, xs(40))
		first := stored(append(stream(a), raw[0])) // 43 bytes, and none of these numbers is longer
		for _, c := range []spoilt{
			{bad, stored(raw), nil, 0, api.ErrSpoilt},
			{bad + " ahead of a record", stored(join(raw, unhex("00 00"))), nil, 0, api.ErrSpoilt},
			{bad + " behind a record", stored(join(stream(rec(9, "xy")), raw)), []api.Rec{rec(9, "xy")}, 0, api.ErrSpoilt},
			{bad + " over two blocks", join(first, stored(raw[1:])), []api.Rec{a}, 43 + 16, api.ErrSpoilt},
			{bad + " ahead of what is spoilt", join(stored(raw), []byte{0}), nil, 0, api.ErrSpoilt},
			{bad + " ahead of a block", join(stored(raw), stored(raw), foot(1, 2*n, 2)), nil, 0, api.ErrSpoilt},
			{bad + " ahead of the foot", join(stored(raw), foot(1, n, 1)), nil, 0, api.ErrSpoilt},
		} {
			c.tell(t, head(0, 43))
		}
	}
}

// P7.7 (1): of a number that is not whole yet only that it has ten bytes is told, and nothing is read for it.
func TestNumbersThatAreNotWhole(t *testing.T) {
	for _, c := range []struct {
		raw string
		e   api.Errno
	}{
		{"80", api.ErrTorn}, {"80 80", api.ErrTorn}, {strings.Repeat("80", 9), api.ErrTorn}, {strings.Repeat("FF", 9), api.ErrTorn},
		{strings.Repeat("80", 10), api.ErrSpoilt}, {strings.Repeat("FF", 10), api.ErrSpoilt}, {strings.Repeat("FF", 30), api.ErrSpoilt},
		{"05", api.ErrTorn}, {"05 FF FF FF FF", api.ErrTorn}, {"05" + strings.Repeat("FF", 9), api.ErrTorn}, {"05" + strings.Repeat("FF", 10), api.ErrSpoilt}, {"05 80 80 04", api.ErrTorn}, {"05 01", api.ErrTorn},
	} {
		raw := unhex(c.raw)
		file := join(head(0, 65536), stored(raw))
		s, r := reader(t, file, len(file), api.FsConfig{})
		ends(t, s, r, c.e, map[api.Errno]int{api.ErrTorn: 2, api.ErrSpoilt: 1}[c.e])
		faulty(t, c.raw, file, nil, map[api.Errno]int{api.ErrTorn: len(file), api.ErrSpoilt: 14}[c.e], c.e)
		if c.e == api.ErrTorn { // with the foot behind it the stream has bytes left over
			faulty(t, c.raw, join(file, foot(0, uint64(len(raw)), 1)), nil, len(file), api.ErrSpoilt)
			faulty(t, c.raw, join(file, foot(1, uint64(len(raw)), 1)), nil, len(file), api.ErrSpoilt)
		}
	}
}

// P7.7: numbers at their bounds are right ones.
func TestNumbersThatMayBe(t *testing.T) {
	for _, seq := range []uint64{0, 1, 127, 128, 16383, 16384, 1<<63 - 1, 1 << 63, 1<<64 - 1} {
		for _, n := range []int{0, 1, 127, 128, 16383, 16384, 65535, 65536} {
			rec := rec(seq, xs(n))
			file := plain(stream(rec), 40000, 1)
			scanned(t, "Scan", file, []api.Rec{rec}, infoOf([]api.Rec{rec}, 40000, file), 0, api.OK)
		}
	}
}

// P7.7 (4): blocks that may not be.
func TestBlocksThatMayNotBe(t *testing.T) {
	a := []api.Rec{{Seq: 1, Line: "abc"}} // five bytes
	raw := stream(a...)
	good := stored(raw)
	turned := func(i int) []byte {
		b := bytes.Clone(good)
		b[i] ^= 4
		return b
	}
	six := append(bytes.Clone(raw), 0)
	var l []spoilt
	for i := range good {
		l = append(l, spoilt{"turned at once", turned(i), nil, 0, api.ErrSpoilt}, spoilt{"turned", join(good, turned(i)), a, 21, api.ErrSpoilt}, spoilt{"torn", good[:i], nil, i, api.ErrTorn})
	}
	l = append(l,
		spoilt{"more than the head says", stored(six), nil, 0, api.ErrSpoilt},
		spoilt{"more than the head says, torn", stored(six)[:21], nil, 21, api.ErrTorn},
		spoilt{"an empty block", stored(nil), nil, 0, api.ErrSpoilt},
		spoilt{"an empty block behind one", join(good, stored(nil)), a, 21, api.ErrSpoilt},
		spoilt{"an empty block of mode 2", join(withSum([]byte{0xB5, 2, 0, 0, 0, 0, 0, 1}), withSum([]byte{0})), nil, 0, api.ErrSpoilt},
		spoilt{"a short block ahead of a short one", join(stored(raw[:3]), stored(raw[3:])), nil, 19, api.ErrSpoilt},
		spoilt{"a short block ahead of a full one", join(good, stored(raw[:3]), stored(append(raw[3:], 0, 0, 0))), a, 40, api.ErrSpoilt},
		spoilt{"a short block ahead of a shorter one", join(stored(raw[:4]), stored(raw[4:])), nil, 20, api.ErrSpoilt},
		spoilt{"a byte that begins no piece", []byte{0}, nil, 0, api.ErrSpoilt},
		spoilt{"a head once more", head(0, 5), nil, 0, api.ErrSpoilt},
		spoilt{"such a byte behind a block", join(good, []byte{0xB4}, good), a, 21, api.ErrSpoilt},
		spoilt{"nothing", nil, nil, 0, api.ErrTorn},
	)
	for _, c := range l {
		c.tell(t, head(0, 5))
	}
}

// P7.7 (4): a block whose head promises much is wanted whole ahead of all else that is said of it.
func TestBlockIsWantedWhole(t *testing.T) {
	b := stored(bytes.Repeat([]byte{7}, 1000))
	s, r := reader(t, join(head(0, 5), b), 1, api.FsConfig{})
	ends(t, s, r, api.ErrSpoilt, 14+1016)
	s, r = reader(t, join(head(0, 5), b[:1015]), 1, api.FsConfig{})
	ends(t, s, r, api.ErrTorn, 14+1016)
	huge := withSum(unhex("B5 01 FF FF FF FF FF FF"))
	s, r = reader(t, join(head(0, 5), huge), 1, api.FsConfig{})
	ends(t, s, r, api.ErrTorn, 14+13)
	huge[11] ^= 1 // its sum is looked at as soon as its head is there
	s, r = reader(t, join(head(0, 5), huge, b), 1, api.FsConfig{})
	ends(t, s, r, api.ErrSpoilt, 14+12)
	s, r = reader(t, join(head(0, 5), []byte{0x4D}, b), 1, api.FsConfig{})
	ends(t, s, r, api.ErrSpoilt, 15)
}

// P7.7 (4): packed blocks, where the head lets them be.
func TestPackedBlocks(t *testing.T) {
	rec := rec(5, xs(1000))
	raw := stream(rec)
	size := uint32(len(raw))
	p := packed(t, raw)
	behind := foot(1, uint64(size), 1)
	file := join(head(1, size), p, behind)
	scanned(t, "packed", file, []api.Rec{rec}, infoOf([]api.Rec{rec}, len(raw), file), 0, api.OK)
	file = join(head(1, size), stored(raw), behind)
	scanned(t, "stored all the same", file, []api.Rec{rec}, infoOf([]api.Rec{rec}, len(raw), file), 0, api.OK)
	faulty(t, "packed, where it may not be", join(head(0, size), p, behind), nil, 14, api.ErrSpoilt)
	faulty(t, "more than the head says", join(head(1, size-1), p, behind), nil, 14, api.ErrSpoilt)
	mode := bytes.Clone(p)
	mode[1] = 3
	faulty(t, "no mode", join(head(1, size), withSum(mode[:8]), mode[12:], behind), nil, 14, api.ErrSpoilt)
	body := bytes.Repeat([]byte{0xFF}, len(p)-16)
	faulty(t, "no body", join(head(1, size), p[:12], withSum(body), behind), nil, 14, api.ErrSpoilt)
}

// P7.8: feet that may not be.
func TestFeetThatMayNotBe(t *testing.T) {
	a := []api.Rec{{Seq: 1, Line: "abc"}, {Seq: 2, Line: ""}} // seven bytes, in blocks of five two blocks
	raw := stream(a...)
	blocks := join(stored(raw[:5]), stored(raw[5:]))
	n := len(blocks)
	good := foot(2, 7, 2)
	l := []spoilt{
		{"a byte behind it", join(blocks, good, []byte{0}), a, n + 25, api.ErrSpoilt},
		{"a foot behind it", join(blocks, good, good), a, n + 25, api.ErrSpoilt},
		{"a block behind it", join(blocks, good, blocks), a, n + 25, api.ErrSpoilt},
		{"no block", join(foot(2, 7, 2)), nil, 0, api.ErrSpoilt},
		{"too early", join(blocks[:21], foot(2, 7, 2), blocks[21:]), a[:1], 21, api.ErrSpoilt},
	}
	for i := range 25 {
		b := bytes.Clone(good)
		b[i] ^= 16
		l = append(l, spoilt{"turned", join(blocks, b), a, n, api.ErrSpoilt}, spoilt{"torn", join(blocks, good[:i]), a, n + i, api.ErrTorn})
	}
	for _, f := range [][]byte{
		foot(1, 7, 2), foot(3, 7, 2), foot(0, 7, 2), foot(2, 6, 2), foot(2, 8, 2), foot(2, 0, 2), foot(2, 7, 1), foot(2, 7, 3), foot(2, 7, 0),
		foot(2+1<<32, 7, 2), foot(2+1<<63, 7, 2), foot(2, 7+1<<32, 2), foot(2, 7+1<<63, 2), foot(2, 7, 2+1<<31), foot(7, 2, 2), foot(2, 2, 7),
	} {
		l = append(l, spoilt{"other numbers", join(blocks, f), a, n, api.ErrSpoilt}, spoilt{"other numbers, a byte behind", join(blocks, f, f), a, n, api.ErrSpoilt})
	}
	for _, c := range l {
		c.tell(t, head(0, 5))
	}
}

// P7.8: the foot is looked at as soon as it is there: a fault of it is told ahead of the Read that may find a byte behind it.
func TestFootIsToldAtOnce(t *testing.T) {
	bad := join(head(0, 5), foot(1, 0, 0))
	s, r := reader(t, bad, 1, fault(api.OpRead, 40))
	ends(t, s, r, api.ErrSpoilt, 39)
	good := plain(nil, 5, 0)
	s, r = reader(t, good, 1, fault(api.OpRead, 40))
	ends(t, s, r, api.ErrIO, 40)
	ends(t, s, r, api.ErrIO, 40)
	s, r = reader(t, append(good, 0xF7), 1, api.FsConfig{})
	ends(t, s, r, api.ErrSpoilt, 40)
	s, r = reader(t, append(good, 0xF7), 65536, api.FsConfig{})
	ends(t, s, r, api.ErrSpoilt, 1)
	for range 2 {
		ends(t, s, r, api.ErrSpoilt, 1)
	}
}

// P7.8: bytes of the stream that are no whole record are left over at the foot.
func TestStreamLeftOver(t *testing.T) {
	rec := rec(300, "ab")
	raw := stream(rec, rec)
	for cut := 6; cut < 10; cut++ {
		for records := range uint64(3) {
			file := plain(raw[:cut], 100, records)
			faulty(t, "left over", file, []api.Rec{rec}, 14+16+cut, api.ErrSpoilt)
		}
	}
	faulty(t, "a record that nobody counted", plain(raw, 100, 1), []api.Rec{rec, rec}, 14+26, api.ErrSpoilt)
}

// P7.9: Info ahead of the end, at it, and behind it.
func TestInfo(t *testing.T) {
	for _, c := range lists() {
		file := plain(stream(c.l...), 3000, uint64(len(c.l)))
		s, r := reader(t, file, 65536, api.FsConfig{})
		for range c.l {
			info, e := r.Info()
			want(t, "Info ahead", e, api.ErrDone)
			want(t, "RunInfo ahead", info, api.RunInfo{})
			r.Next()
		}
		info, e := r.Info()
		want(t, "Info ahead", e, api.ErrDone)
		want(t, "RunInfo ahead", info, api.RunInfo{})
		r.Next()
		n := s.Stats().Calls
		for range 2 {
			info, e = r.Info()
			want(t, "Info", e, api.OK)
			want(t, c.name, info, infoOf(c.l, 3000, file))
			_, ok, e := r.Next()
			want(t, "Next at the end", ok, false)
			want(t, "Next at the end", e, api.OK)
		}
		want(t, "no call", s.Stats().Calls, n)
	}
}

// P7.9: RunInfo of a run that starts behind other bytes of a stream that someone else has read: Bytes are the run's.
func TestReaderBeginsWhereTheFileStands(t *testing.T) {
	s := system(t, api.FsConfig{})
	f := s.Input(join([]byte("before"), plain(nil, 5, 0)))
	f.Read(6)
	r, e := spill.Open(f, 9)
	want(t, "Open", e, api.OK)
	r.Next()
	info, e := r.Info()
	want(t, "Info", e, api.OK)
	want(t, "RunInfo", info, api.RunInfo{Bytes: 39})
}

// P7.7: a Reader neither closes nor asks for anything else.
func TestReaderOnlyReads(t *testing.T) {
	s, r := reader(t, plain(stream(rec(1, "abc")), 2, 1), 5, api.FsConfig{})
	for ok := true; ok; {
		_, ok, _ = r.Next()
	}
	calls(t, s, api.OpRead, s.Stats().Calls)
	want(t, "open", s.Stats().Open, 1)
}

// P7.10: the place of a fault in a great file: the last of many blocks.
func TestScanOfManyBlocks(t *testing.T) {
	var l []api.Rec
	for i := range 5000 {
		l = append(l, api.Rec{Seq: uint64(i), Line: string(binary.AppendUvarint(nil, uint64(i*i)))})
	}
	file := plain(stream(l...), 7, 5000)
	scanned(t, "whole", file, l, infoOf(l, 7, file), 0, api.OK)
	blocks := (len(stream(l...)) + 6) / 7
	last := len(file) - 25 - 16 - (len(stream(l...)) - 7*(blocks-1))
	file[last+12] ^= 1
	got, info, place, e := spill.Scan(file)
	want(t, "place", place, last)
	want(t, "errno", e, api.ErrSpoilt)
	want(t, "RunInfo", info, api.RunInfo{})
	same(t, "records ahead", got, l[:len(got)])
	want(t, "as many as there are", len(got) >= 4990, true)
}
