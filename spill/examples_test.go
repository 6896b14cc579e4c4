package spill_test

import (
	"bytes"
	"testing"

	"mill/api"
	"mill/spill"
)

// Example 1 of the chapter.
func TestExample1(t *testing.T) {
	b := runBytes(t, nil, 10, false)
	first, last := unhex("4D 52 55 4E 01 00 00 00 00 0A"), append([]byte{0xF7}, make([]byte, 20)...)
	if !bytes.Equal(b, join(withSum(first), withSum(last))) {
		t.Errorf("Bytes: %s", hex(b))
	}
	want(t, "bytes", len(b), 39)
	scanned(t, "Scan", b, nil, api.RunInfo{Bytes: 39}, 0, api.OK)
}

// Example 2.
func TestExample2(t *testing.T) {
	for _, c := range []struct {
		rec   api.Rec
		bytes string
	}{{rec(300, "ab"), "AC 02 02 61 62"}, {api.Rec{}, "00 00"}} {
		raw := unhex(c.bytes)
		if b := runBytes(t, []api.Rec{c.rec}, 100, false); !bytes.Equal(b, plain(raw, 100, 1)) {
			t.Errorf("%v: %s, want a block of %s", c.rec, hex(b), c.bytes)
		}
	}
}

// Example 3.
func TestExample3(t *testing.T) {
	a, b := rec(300, "ab"), api.Rec{}
	file := join(head(0, 3), stored(unhex("AC 02 02")), stored(unhex("61 62 00")), stored(unhex("00")), foot(2, 7, 3))
	want(t, "bytes", len(file), 94)
	s, w := writer(t, 3, false, api.FsConfig{})
	holds(t, s, file[:14], 1)
	want(t, "Add", w.Add(a), api.OK)
	holds(t, s, file[:33], 2)
	want(t, "Add", w.Add(b), api.OK)
	holds(t, s, file[:52], 3)
	info, e := w.Finish()
	want(t, "Finish", e, api.OK)
	want(t, "RunInfo", info, infoOf([]api.Rec{a, b}, 3, file))
	holds(t, s, file, 5)
}

// Example 4.
func TestExample4(t *testing.T) {
	b := runBytes(t, nil, 10, false)
	faulty(t, "without its last byte", b[:38], nil, 38, api.ErrTorn)
	faulty(t, "with a byte more", append(bytes.Clone(b), 0), nil, 39, api.ErrSpoilt)
	faulty(t, "its first byte turned", join([]byte{^b[0]}, b[1:]), nil, 0, api.ErrSpill)
	faulty(t, "its sixth byte 1", join(b[:5], []byte{1}, b[6:]), nil, 0, api.ErrSpoilt)
}

// Example 5.
func TestExample5(t *testing.T) {
	faulty(t, "80 00", plain(unhex("80 00 00"), 10, 1), nil, 14, api.ErrSpoilt)
}

// Example 6.
func TestExample6(t *testing.T) {
	_, w := writer(t, 10, false, api.FsConfig{})
	_, e := w.Finish()
	want(t, "Finish", e, api.OK)
	info, e := w.Finish()
	want(t, "Finish", e, api.ErrDone)
	want(t, "RunInfo", info, api.RunInfo{})
	_, r := reader(t, runBytes(t, nil, 10, false), 10, api.FsConfig{})
	info, e = r.Info()
	want(t, "Info", e, api.ErrDone)
	want(t, "RunInfo", info, api.RunInfo{})
}

// The face as a program would use it: what a Writer lays down a Reader gives back.
func TestThereAndBack(t *testing.T) {
	for _, c := range lists() {
		s, w := writer(t, 64, true, api.FsConfig{})
		for _, r := range c.l {
			want(t, "Add", w.Add(r), api.OK)
		}
		wrote, e := w.Finish()
		want(t, "Finish", e, api.OK)
		file, _ := s.Look("out")
		_, r := reader(t, file, 100, api.FsConfig{})
		var l []api.Rec
		for rec, ok, e := r.Next(); ok; rec, ok, e = r.Next() {
			want(t, "Next", e, api.OK)
			l = append(l, rec)
		}
		same(t, c.name, l, c.l)
		info, e := r.Info()
		want(t, "Info", e, api.OK)
		want(t, c.name, info, wrote)
	}
	if _, e := spill.Bytes(nil, 0, true); e != api.ErrArg {
		t.Errorf("Bytes: %d", e)
	}
}
