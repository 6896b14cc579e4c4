package temps_test

import (
	"bytes"
	"encoding/binary"
	"fmt"
	"hash/crc32"
	"slices"
	"strings"
	"testing"
	"unsafe"

	"mill/api"
	"mill/simfs"
	"mill/temps"
)

// want compares two values, and tells what they are of.
func want[T comparable](t *testing.T, what string, got, wanted T) {
	t.Helper()
	if got != wanted {
		t.Errorf("%s: %v, want %v", what, got, wanted)
	}
}

// system makes a system that is wide enough, with a plan.
func system(t *testing.T, c api.FsConfig) *simfs.FS {
	t.Helper()
	if c.Files == 0 {
		c.Capacity, c.Files, c.Handles = api.MaxCapacity, 40, 20
	}
	s, e := simfs.New(c)
	if s == nil || e != api.OK {
		t.Fatalf("New(%v): %d", c, e)
	}
	return s
}

// put lays files in, without bytes.
func put(t *testing.T, s *simfs.FS, names ...string) {
	t.Helper()
	for _, name := range names {
		want(t, "Put "+name, s.Put(name, nil), api.OK)
	}
}

// arm gives a system a new plan, and sets its counts back to 0.
func arm(t *testing.T, s *simfs.FS, c api.FsConfig) {
	t.Helper()
	want(t, "Arm", s.Arm(c), api.OK)
}

// refusing is a plan that refuses these calls, each kind's first one.
func refusing(kinds ...api.Op) api.FsConfig {
	var c api.FsConfig
	for _, kind := range kinds {
		c.Faults = append(c.Faults, api.Fault{Op: kind, Nth: 1})
	}
	return c
}

// by counts calls by kind.
func by(kinds ...api.Op) [api.Ops]int {
	var l [api.Ops]int
	for _, kind := range kinds {
		l[kind]++
	}
	return l
}

// made tells that just these calls have been made since the plan was given.
func made(t *testing.T, s *simfs.FS, what string, kinds ...api.Op) {
	t.Helper()
	want(t, what+": calls", s.Stats().By, by(kinds...))
}

// files tells of all files what stands in them and how much of it is synced, and how many are open.
func files(s *simfs.FS) string {
	var b strings.Builder
	for _, name := range s.Names() {
		data, _ := s.Look(name)
		n, _ := s.Synced(name)
		fmt.Fprintf(&b, "%q=%x/%d ", name, data, n)
	}
	fmt.Fprintf(&b, "open %d", s.Stats().Open)
	return b.String()
}

// registry makes a registry on a system.
func registry(t *testing.T, s *simfs.FS, prefix string, avoid ...string) *temps.Registry {
	t.Helper()
	r, e := temps.New(s, prefix, avoid...)
	if r == nil || e != api.OK {
		t.Fatalf("New(%q, %q): %d", prefix, avoid, e)
	}
	return r
}

// reserves tells that Reserve gives this name, by so many Stats.
func reserves(t *testing.T, s *simfs.FS, r *temps.Registry, name string, stats int) {
	t.Helper()
	before := s.Stats()
	got, e := r.Reserve()
	if got != name || e != api.OK {
		t.Errorf("Reserve: %q, %d, want %q", got, e, name)
	}
	before.By[api.OpStat] += stats
	want(t, "calls", s.Stats().By, before.By)
}

// reservesNone tells that Reserve is refused, by so many Stats.
func reservesNone(t *testing.T, s *simfs.FS, r *temps.Registry, wanted api.Errno, stats int) {
	t.Helper()
	before := s.Stats()
	got, e := r.Reserve()
	if got != "" || e != wanted {
		t.Errorf("Reserve: %q, %d, want %d", got, e, wanted)
	}
	before.By[api.OpStat] += stats
	want(t, "calls", s.Stats().By, before.By)
}

// names tells what is in a registry.
func names(t *testing.T, r *temps.Registry, wanted ...string) {
	t.Helper()
	if got := r.Names(); !slices.Equal(got, wanted) {
		t.Errorf("Names: %q, want %q", got, wanted)
	}
}

// adopt lets names into a registry.
func adopt(t *testing.T, r *temps.Registry, names ...string) {
	t.Helper()
	for _, name := range names {
		want(t, "Adopt "+name, r.Adopt(name), api.OK)
	}
}

// job is the entry of a job.
func job(print uint64) api.Entry { return api.Entry{Kind: api.EntryJob, Print: print} }

// making is the entry of a file that is going to be made.
func making(name string) api.Entry { return api.Entry{Kind: api.EntryMake, Name: name} }

// run is the entry of a first run.
func run(name string, n, records, lines int, sum uint32) api.Entry {
	return api.Entry{Kind: api.EntryRun, Name: name, Run: n, Records: records, Lines: lines, Sum: sum}
}

// merged is the entry of a run that was made of others.
func merged(name string, n, records int, sum uint32, in ...int) api.Entry {
	return api.Entry{Kind: api.EntryMerge, Name: name, Run: n, Records: records, Sum: sum, In: in}
}

// every are entries of each kind, as they follow on each other in a journal.
func every() []api.Entry {
	return []api.Entry{
		job(0xFEDCBA9876543210), making("mill.00001"), run("mill.00001", 0, 3, 4, 0xDEADBEEF), making("\xff"), run("\xff", 131071, 1<<40, 1<<40, 1<<32-1),
		{Kind: api.EntryAll}, making(strings.Repeat("n", 64)), merged(strings.Repeat("n", 64), 2, 77, 5, 0, 1), merged("x", 0, 0, 0, upTo(64)...), {Kind: api.EntryOutput},
	}
}

// upTo gives the numbers ahead of n.
func upTo(n int) []int {
	l := make([]int, n)
	for i := range l {
		l[i] = i
	}
	return l
}

// alike compares entries.
func alike(a, b api.Entry) bool {
	in := slices.Equal(a.In, b.In)
	return in && a.Kind == b.Kind && a.Print == b.Print && a.Name == b.Name && a.Run == b.Run && a.Records == b.Records && a.Lines == b.Lines && a.Sum == b.Sum
}

// same compares lists of entries.
func same(t *testing.T, what string, got, wanted []api.Entry) {
	t.Helper()
	if !slices.EqualFunc(got, wanted, alike) {
		t.Errorf("%s: %s, want %s", what, brief(got), brief(wanted))
	}
}

// brief shows entries, and of many the first ones.
func brief(l []api.Entry) string {
	if len(l) > 12 {
		return fmt.Sprintf("%d entries: %+v ..", len(l), l[:12])
	}
	return fmt.Sprintf("%d entries: %+v", len(l), l)
}

// sealed gives the bytes of an entry of this number with this body, whatever it is, by the library's own sum.
func sealed(n uint32, body []byte) []byte {
	b := binary.BigEndian.AppendUint32([]byte{0xE5}, n)
	b = binary.BigEndian.AppendUint16(b, uint16(len(body)))
	b = binary.BigEndian.AppendUint32(b, crc32.ChecksumIEEE(b))
	b = append(b, body...)
	return binary.BigEndian.AppendUint32(b, crc32.ChecksumIEEE(body))
}

// bytesOf gives the bytes of a journal of these entries, laid by the model.
func bytesOf(l ...api.Entry) []byte {
	var b []byte
	for n, e := range l {
		b = append(b, sealed(uint32(n), modelBody(e))...)
	}
	return b
}

// encodes tells that Encode gives these bytes.
func encodes(t *testing.T, n int, e api.Entry, wanted []byte) {
	t.Helper()
	got, errno := temps.Encode(n, e)
	if !bytes.Equal(got, wanted) || errno != api.OK {
		t.Errorf("Encode(%d, %s): %x, %d, want %x", n, brief([]api.Entry{e}), got, errno, wanted)
	}
}

// encodesNone tells that Encode refuses.
func encodesNone(t *testing.T, n int, e api.Entry, wanted api.Errno) {
	t.Helper()
	got, errno := temps.Encode(n, e)
	if got != nil || errno != wanted {
		t.Errorf("Encode(%d, %s): %x, %d, want %d", n, brief([]api.Entry{e}), got, errno, wanted)
	}
}

// decodes tells what Decode gives.
func decodes(t *testing.T, what string, b []byte, l []api.Entry, taken int, wanted api.Errno) {
	t.Helper()
	got, n, e := temps.Decode(b)
	same(t, what+": Decode", got, l)
	if n != taken || e != wanted {
		t.Errorf("%s: Decode: %d, %d, want %d, %d", what, n, e, taken, wanted)
	}
}

// begun begins a journal, and sets the counts back to 0; c is the plan from there on.
func begun(t *testing.T, c api.FsConfig) (*simfs.FS, *temps.Journal) {
	t.Helper()
	s := system(t, api.FsConfig{})
	j, e := temps.Begin(s, "j", 7)
	if j == nil || e != api.OK {
		t.Fatalf("Begin: %d", e)
	}
	arm(t, s, c)
	return s, j
}

// resumed resumes a journal of the fingerprint 7 with these bytes.
func resumed(t *testing.T, data []byte) (*simfs.FS, *temps.Journal, []api.Entry) {
	t.Helper()
	s := system(t, api.FsConfig{})
	want(t, "Put", s.Put("j", data), api.OK)
	j, l, e := temps.Resume(s, "j", 7)
	if j == nil || e != api.OK {
		t.Fatalf("Resume of %x: %d", data, e)
	}
	return s, j, l
}

// holds tells what stands in the file j, all of it synced, and in the journal.
func holds(t *testing.T, s *simfs.FS, j *temps.Journal, l ...api.Entry) {
	t.Helper()
	same(t, "Entries", j.Entries(), l)
	got, _ := s.Look("j")
	if wanted := bytesOf(l...); !bytes.Equal(got, wanted) {
		t.Errorf("j: %x, want %x", got, wanted)
	}
	n, _ := s.Synced("j")
	want(t, "Synced", n, len(got))
}

// memory is where something lies: from its first byte up to, but without, its last.
type memory struct{ from, to uintptr }

// ofList gives a list's memory, spare room included.
func ofList[T any](l []T) memory {
	var one T
	from := uintptr(unsafe.Pointer(unsafe.SliceData(l)))
	return memory{from, from + uintptr(cap(l))*unsafe.Sizeof(one)}
}

// ofText gives a text's memory; one of a single byte has none of its own.
func ofText(s string) memory {
	if len(s) < 2 {
		return memory{}
	}
	from := uintptr(unsafe.Pointer(unsafe.StringData(s)))
	return memory{from, from + uintptr(len(s))}
}

// ofEntries gives the memory of entries.
func ofEntries(l []api.Entry) []memory {
	m := []memory{ofList(l)}
	for _, e := range l {
		m = append(m, ofList(e.In), ofText(e.Name))
	}
	return m
}

// ofTexts gives the memory of texts.
func ofTexts(l []string) []memory {
	m := []memory{ofList(l)}
	for _, s := range l {
		m = append(m, ofText(s))
	}
	return m
}

// apart tells that no two of these share memory.
func apart(t *testing.T, what string, l ...memory) {
	t.Helper()
	for i, a := range l {
		for k, b := range l[i+1:] {
			if a.from < a.to && b.from < b.to && a.from < b.to && b.from < a.to {
				t.Errorf("%s: %d and %d share memory", what, i, i+1+k)
			}
		}
	}
}

// roomy gives a copy of a list with spare room behind it that holds a mark.
func roomy[T any](l []T, mark T) []T {
	r := make([]T, len(l), len(l)+5)
	copy(r, l)
	spare := r[len(l):cap(r)]
	for i := range spare {
		spare[i] = mark
	}
	return r
}

// untouched tells that a list that roomy gave is as it was.
func untouched[T comparable](t *testing.T, what string, got, l []T, mark T) {
	t.Helper()
	for i, x := range got[:cap(got)] {
		if i < len(l) && x != l[i] || i >= len(l) && x != mark {
			t.Errorf("%s: item %d has been changed", what, i)
			return
		}
	}
}
