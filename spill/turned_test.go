package spill_test

import (
	"bytes"
	"runtime"
	"slices"
	"testing"

	"mill/api"
	"mill/simfs"
	"mill/spill"
)

// through reads a run of these bytes to its end or fault.
func through(t *testing.T, b []byte, buf int, short []int) ([]api.Rec, api.RunInfo, api.Errno) {
	t.Helper()
	s := system(t, api.FsConfig{Short: short})
	r, e := spill.Open(s.Input(b), buf)
	if e != api.OK {
		return nil, api.RunInfo{}, e
	}
	var l []api.Rec
	for {
		rec, ok, e := r.Next()
		if e != api.OK {
			return l, api.RunInfo{}, e
		}
		if !ok {
			info, e := r.Info()
			return l, info, e
		}
		l = append(l, rec)
	}
}

// P7.12: whatever block, packing, buffer and short reads are, a Reader gives what was laid down.
func TestRoundAbout(t *testing.T) {
	for _, c := range lists() {
		size := len(stream(c.l...))
		for _, block := range []int{1, 2, 3, 17, 100, 512, 4096, 65535, 65536} {
			if size > 20000 && block < 100 {
				continue
			}
			for _, pack := range []bool{false, true} {
				if pack && size/block > 1500 {
					continue
				}
				b := runBytes(t, c.l, block, pack)
				info := infoOf(c.l, block, b)
				scanned(t, c.name, b, c.l, info, 0, api.OK)
				for i, buf := range []int{1, 2, 16, 512, 65535, 65536} {
					got, gi, e := through(t, b, buf, [][]int{nil, {1, 500}, {7}}[(i+block)%3])
					same(t, c.name, got, c.l)
					want(t, c.name, e, api.OK)
					want(t, c.name, gi, info)
				}
			}
		}
	}
}

// P7.12: one byte a block, and one a Read, with the longest line.
func TestRoundAboutInBytes(t *testing.T) {
	l := []api.Rec{rec(1<<64-1, xs(api.MaxLine)), rec(0, "")}
	b := runBytes(t, l, 1, true)
	got, info, e := through(t, b, 1, nil)
	same(t, "records", got, l)
	want(t, "errno", e, api.OK)
	want(t, "RunInfo", info, infoOf(l, 1, b))
}

// P7.12: any bit turned, any end cut off: an error, and ahead of it the first ones of the list.
func TestTurnedAndCut(t *testing.T) {
	l := []api.Rec{rec(300, "ab"), rec(0, ""), rec(1<<63, "a line that comes twice"), rec(7, "a line that comes twice, and is packed as it comes twice"), rec(8, "\x00")}
	for _, block := range []int{1, 3, 40, 65536} {
		for _, pack := range []bool{false, true} {
			file := runBytes(t, l, block, pack)
			tell := func(b []byte, wanted ...api.Errno) {
				t.Helper()
				got, info, place, e := spill.Scan(b)
				if len(got) > len(l) || !slices.Equal(got, l[:len(got)]) || !slices.Contains(wanted, e) || info != (api.RunInfo{}) || place > len(b) {
					t.Errorf("block %d: %s: %v, %+v, place %d, errno %d", block, hex(b), got, info, place, e)
				}
				other, _, e2 := through(t, b, 5, nil)
				same(t, "a Reader's records", other, got)
				want(t, "a Reader's error", e2, e)
			}
			for i := range file {
				for bit := range 8 {
					b := bytes.Clone(file)
					b[i] ^= 1 << bit
					tell(b, api.ErrSpill, api.ErrSpoilt)
				}
				tell(file[:i], api.ErrTorn)
			}
		}
	}
}

// P7.12: what a loss of power leaves of a run that was not synced is torn.
func TestTornByPower(t *testing.T) {
	l := lists()[2].l
	for keep := range 94 {
		s, w := writer(t, 3, false, api.FsConfig{})
		for _, r := range l {
			w.Add(r)
		}
		w.Finish()
		s.Cut()
		want(t, "Reboot", s.Reboot(keep), api.OK)
		_, _, e := through(t, look(s), 10, nil)
		want(t, "errno", e, api.ErrTorn)
	}
}

// P7.13: no call panics, and each ends, whatever it is given.
func TestNothingPanics(t *testing.T) {
	var w *spill.Writer
	var r *spill.Reader
	want(t, "Add", w.Add(api.Rec{}), api.ErrNil)
	want(t, "Add", w.Add(rec(0, xs(api.MaxLine+1))), api.ErrNil)
	info, e := w.Finish()
	want(t, "Finish", e, api.ErrNil)
	want(t, "RunInfo", info, api.RunInfo{})
	got, ok, e := r.Next()
	want(t, "Next", e, api.ErrNil)
	want(t, "Next", ok, false)
	want(t, "Next", got, api.Rec{})
	info, e = r.Info()
	want(t, "Info", e, api.ErrNil)
	want(t, "RunInfo", info, api.RunInfo{})
	for range 2 { // what its package did not make
		var w0 spill.Writer
		w0.Finish()
		w0.Add(api.Rec{})
		w0.Finish()
		var w1 spill.Writer
		w1.Add(rec(1, "abc"))
		w1.Finish()
		var r0 spill.Reader
		r0.Info()
		r0.Next()
		r0.Next()
		r0.Info()
		spill.Create(&simfs.File{}, 1, true)
		spill.Open(&simfs.File{}, 1)
	}
	alphabet := string([]byte{0, 1, 0xB5, 0xF7, 0xFF})
	for _, s := range texts(alphabet, 5) {
		spill.Scan([]byte(s))
		spill.Scan(join(head(1, 3), []byte(s)))
		spill.Scan(join(head(0, 3), stored([]byte(s)), []byte(s)))
		spill.Scan(join(head(0, 65536), stored([]byte(s)), foot(0, uint64(len(s)), 1)))
	}
	scanned(t, "nil", nil, nil, api.RunInfo{}, 0, api.ErrTorn)
}

// P7.13: what is handed in is not changed, spare room included, and not kept.
func TestHandedInStaysAsItIs(t *testing.T) {
	mark := rec(99, "mark")
	for _, c := range lists() {
		l := roomy(c.l, mark)
		b := runBytes(t, l, 100, true)
		untouched(t, c.name, l, c.l, mark)
		for _, data := range [][]byte{b, b[:len(b)-1], append(bytes.Clone(b), 7), b[:min(len(b), 60)]} {
			given := roomy(data, 0xEE)
			got, _, _, _ := spill.Scan(given)
			untouched(t, c.name, given, data, 0xEE)
			clear(given[:cap(given)])
			if len(got) > len(c.l) || !slices.Equal(got, c.l[:len(got)]) {
				t.Errorf("%s: what Scan gave has changed with its argument", c.name)
			}
		}
	}
}

// P7.13: answers are new memory.
func TestAnswersAreNew(t *testing.T) {
	l := []api.Rec{rec(1, "abc"), rec(2, "abc"), rec(3, "de"), rec(4, "")}
	places := []memory{ofText(l[0].Line), ofText(l[2].Line)}
	for range 2 {
		b := runBytes(t, l, 4, false)
		places = append(places, ofList(b))
		got, _, _, _ := spill.Scan(b)
		places = append(places, ofList(got))
		for _, r := range got {
			places = append(places, ofText(r.Line))
		}
		_, r := reader(t, b, 65536, api.FsConfig{})
		for rec, ok, _ := r.Next(); ok; rec, ok, _ = r.Next() {
			places = append(places, ofText(rec.Line))
		}
	}
	apart(t, "Bytes, Scan, Next", places...)
}

// P7.13 (R5): what a Reader or Writer answers hangs on no other one.
func TestSeveralAtOnce(t *testing.T) {
	l := lists()[4].l
	b := runBytes(t, l, 50, true)
	s1, w1 := writer(t, 50, true, api.FsConfig{})
	s2, w2 := writer(t, 50, true, api.FsConfig{})
	_, r1 := reader(t, b, 9, api.FsConfig{})
	_, r2 := reader(t, b, 9, api.FsConfig{})
	for i, rec := range l {
		want(t, "Add", w1.Add(rec), api.OK)
		want(t, "Add", w2.Add(l[len(l)-1-i]), api.OK)
		got, _, _ := r1.Next()
		want(t, "Next", got, rec)
		if i%2 == 1 {
			got, _, _ := r2.Next()
			want(t, "Next", got, l[i/2])
		}
	}
	w1.Finish()
	w2.Finish()
	want(t, "the one", bytes.Equal(look(s1), b), true)
	turned := slices.Clone(l)
	slices.Reverse(turned)
	want(t, "the other", bytes.Equal(look(s2), runBytes(t, turned, 50, true)), true)
}

// What a Reader and a Writer keep does not grow with what went through them.
func TestLittleIsKept(t *testing.T) {
	var l []api.Rec
	for i := range 3000 {
		l = append(l, rec(uint64(i), xs(5000)))
	}
	b := runBytes(t, l, 40000, false)
	_, r := reader(t, b, 3000, api.FsConfig{})
	used := func() int {
		var m runtime.MemStats
		runtime.GC()
		runtime.ReadMemStats(&m)
		return int(m.HeapAlloc)
	}
	before := used()
	for range len(l) - 1 {
		r.Next()
	}
	if more := used() - before; more > 1<<20 {
		t.Errorf("a Reader keeps %d bytes", more)
	}
	s := system(t, api.FsConfig{})
	w, _ := spill.Create(s.Sink(-1), 40000, true)
	before = used()
	for _, r := range l {
		w.Add(r)
	}
	if more := used() - before; more > 2<<20 { // what the Sink took is among it
		t.Errorf("a Writer keeps %d bytes", more)
	}
	last, _, _ := r.Next() // both are in use to here
	want(t, "Next", last, l[len(l)-1])
	want(t, "Add", w.Add(rec(0, "")), api.OK)
}
