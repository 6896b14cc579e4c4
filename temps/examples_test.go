package temps_test

import (
	"bytes"
	"testing"

	"mill/api"
	"mill/temps"
)

// Example 1 of the chapter.
func TestExample1(t *testing.T) {
	s := system(t, api.FsConfig{})
	put(t, s, "t.00001")
	r := registry(t, s, "t")
	reserves(t, s, r, "t.00002", 2)
	reserves(t, s, r, "t.00003", 1)
	f, e := r.Create("t.00002")
	want(t, "Create", e, api.OK)
	want(t, "Name", f.Name(), "t.00002")
	names(t, r, "t.00002")
}

// Example 2.
func TestExample2(t *testing.T) {
	b, e := temps.Encode(0, job(258))
	want(t, "Encode", e, api.OK)
	want(t, "length", len(b), 24)
	want(t, "head", string(b[:7]), "\xE5\x00\x00\x00\x00\x00\x09")
	want(t, "body", string(b[11:20]), "\x01\x00\x00\x00\x00\x00\x00\x01\x02")
	encodes(t, 0, job(258), sealed(0, []byte{1, 0, 0, 0, 0, 0, 0, 1, 2}))
}

// Example 3.
func TestExample3(t *testing.T) {
	b := bytesOf(job(258))
	decodes(t, "with a torn head", append(bytes.Clone(b), 0xE5, 0, 0), []api.Entry{job(258)}, 24, api.ErrTorn)
	decodes(t, "with a 00", append(bytes.Clone(b), 0), []api.Entry{job(258)}, 24, api.ErrJournal)
}

// Example 4.
func TestExample4(t *testing.T) {
	encodesNone(t, 0, api.Entry{Kind: api.EntryAll, Run: 1}, api.ErrJournal)
	encodesNone(t, 0, merged("x", 3, 1, 1, 2, 1), api.ErrJournal)
}

// Example 5.
func TestExample5(t *testing.T) {
	s := system(t, api.FsConfig{})
	put(t, s, "a", "b", "c")
	r := registry(t, s, "t")
	adopt(t, r, "a", "b", "c")
	s.Open("b", api.ModeRead)
	n, e := r.Sweep()
	want(t, "removed", n, 2)
	want(t, "Sweep", e, api.ErrBusy)
	names(t, r, "b")
	want(t, "files", files(s), `"b"=/0 open 1`)
}

// Example 6.
func TestExample6(t *testing.T) {
	s := system(t, api.FsConfig{Files: 2, Handles: 2})
	j, e := temps.Begin(s, "j", 1)
	want(t, "no journal", j == nil, true)
	want(t, "Begin", e, api.ErrSpace)
	made(t, s, "Begin", api.OpStat, api.OpOpen, api.OpWrite, api.OpClose, api.OpRemove)
	want(t, "files", files(s), "open 0")
}

// Example 7.
func TestExample7(t *testing.T) {
	for _, torn := range [][]byte{nil, {0xE5, 0, 0}} {
		s, j, l := resumed(t, torn)
		same(t, "Resume", l, []api.Entry{job(7)})
		holds(t, s, j, job(7))
	}
	s := system(t, api.FsConfig{})
	want(t, "Put", s.Put("j", []byte{0}), api.OK)
	_, _, e := temps.Resume(s, "j", 7)
	want(t, "Resume", e, api.ErrJournal)
}
