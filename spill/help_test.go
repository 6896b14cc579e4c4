package spill_test

import (
	"bytes"
	"encoding/binary"
	"hash/crc32"
	"math/rand"
	"slices"
	"strings"
	"testing"
	"unsafe"

	"mill/api"
	"mill/simfs"
	"mill/spill"
	"mill/squeeze"
)

// want compares two values, and tells what they are of.
func want[T comparable](t *testing.T, what string, got, wanted T) {
	t.Helper()
	if got != wanted {
		t.Errorf("%s: %+v, want %+v", what, got, wanted)
	}
}

// same compares lists of records.
func same(t *testing.T, what string, got, wanted []api.Rec) {
	t.Helper()
	if !slices.Equal(got, wanted) {
		t.Errorf("%s: %s, want %s", what, brief(got), brief(wanted))
	}
}

// brief shows records, and of long lists and lines the beginning.
func brief(l []api.Rec) string {
	var s strings.Builder
	for i, r := range l {
		if i == 5 {
			return s.String() + " .."
		}
		s.WriteString(" {" + hex(binary.BigEndian.AppendUint64(nil, r.Seq)) + " " + hex([]byte(r.Line)) + "}")
	}
	return s.String()
}

// hex shows bytes, and of many the first ones.
func hex(b []byte) string {
	const digits = "0123456789ABCDEF"
	s := ""
	for i, x := range b {
		if i == 100 {
			return s + " .."
		}
		s += string(digits[x>>4]) + string(digits[x&15])
	}
	return s
}

// unhex gives the bytes that hexadecimal digits say; blanks do not count.
func unhex(s string) []byte {
	var b []byte
	s = strings.ReplaceAll(s, " ", "")
	for i := 0; i < len(s); i += 2 {
		b = append(b, byte(strings.IndexByte("0123456789ABCDEF", s[i])<<4|strings.IndexByte("0123456789ABCDEF", s[i+1])))
	}
	return b
}

// join lays bytes one behind the other.
func join(pieces ...[]byte) []byte { return bytes.Join(pieces, nil) }

// withSum gives bytes and their sum behind them, by the library's own sum.
func withSum(b []byte) []byte {
	return binary.BigEndian.AppendUint32(bytes.Clone(b), crc32.ChecksumIEEE(b))
}

// head gives a head that says this.
func head(pack byte, block uint32) []byte {
	return withSum(binary.BigEndian.AppendUint32([]byte{0x4D, 0x52, 0x55, 0x4E, 1, pack}, block))
}

// foot gives a foot that says this.
func foot(records, size uint64, blocks uint32) []byte {
	b := binary.BigEndian.AppendUint64([]byte{0xF7}, records)
	b = binary.BigEndian.AppendUint64(b, size)
	return withSum(binary.BigEndian.AppendUint32(b, blocks))
}

// stored gives a stored block, laid by hand.
func stored(raw []byte) []byte {
	n := len(raw)
	b := withSum([]byte{0xB5, 1, byte(n >> 16), byte(n >> 8), byte(n), byte(n >> 16), byte(n >> 8), byte(n)})
	return join(b, withSum(raw)[:n], withSum(raw)[n:])
}

// packed gives a block that is packed indeed.
func packed(t *testing.T, raw []byte) []byte {
	t.Helper()
	b, e := squeeze.Pack(raw)
	if e != api.OK || b[1] != 2 {
		t.Fatalf("Pack of %d bytes gives no packed block", len(raw))
	}
	return b
}

// stream gives the bytes of records, numbers by the library's own groups.
func stream(l ...api.Rec) []byte {
	var b []byte
	for _, r := range l {
		b = binary.AppendUvarint(b, r.Seq)
		b = binary.AppendUvarint(b, uint64(len(r.Line)))
		b = append(b, r.Line...)
	}
	return b
}

// plain gives a run file of a stream, cut into stored blocks.
func plain(raw []byte, block int, records uint64) []byte {
	b, n := head(0, uint32(block)), uint32(0)
	for piece := range slices.Chunk(raw, block) {
		b = append(b, stored(piece)...)
		n++
	}
	return append(b, foot(records, uint64(len(raw)), n)...)
}

// runBytes gives what Bytes gives, which must be OK.
func runBytes(t *testing.T, l []api.Rec, block int, pack bool) []byte {
	t.Helper()
	b, e := spill.Bytes(l, block, pack)
	if e != api.OK {
		t.Fatalf("Bytes of %d records, block %d: %d", len(l), block, e)
	}
	return b
}

// scanned tells what Scan gives of bytes.
func scanned(t *testing.T, what string, b []byte, l []api.Rec, info api.RunInfo, place int, e api.Errno) {
	t.Helper()
	gl, gi, gp, ge := spill.Scan(b)
	same(t, what, gl, l)
	if gi != info || gp != place || ge != e {
		t.Errorf("%s: Scan: %+v, place %d, errno %d, want %+v, place %d, errno %d", what, gi, gp, ge, info, place, e)
	}
}

// faulty tells that Scan finds this fault.
func faulty(t *testing.T, what string, b []byte, l []api.Rec, place int, e api.Errno) {
	t.Helper()
	scanned(t, what, b, l, api.RunInfo{}, place, e)
}

// system makes a system that is wide enough, with this plan.
func system(t *testing.T, c api.FsConfig) *simfs.FS {
	t.Helper()
	c.Capacity, c.Files, c.Handles = api.MaxCapacity, 9, 9
	s, e := simfs.New(c)
	if e != api.OK {
		t.Fatalf("New(%v): %d", c, e)
	}
	return s
}

// openFile opens a file and sets the counts of calls back to 0; c is the plan from there on.
func openFile(t *testing.T, s *simfs.FS, name string, mode api.Mode, c api.FsConfig) *simfs.File {
	t.Helper()
	f, e := s.Open(name, mode)
	if e != api.OK {
		t.Fatalf("Open(%q, %d): %d", name, mode, e)
	}
	want(t, "Arm", s.Arm(c), api.OK)
	return f
}

// writer begins a run in a new file, out.
func writer(t *testing.T, block int, pack bool, c api.FsConfig) (*simfs.FS, *spill.Writer) {
	t.Helper()
	s := system(t, api.FsConfig{})
	w, e := spill.Create(openFile(t, s, "out", api.ModeNew, c), block, pack)
	if w == nil || e != api.OK {
		t.Fatalf("Create(%d): %d", block, e)
	}
	return s, w
}

// reader opens a run of these bytes.
func reader(t *testing.T, data []byte, buf int, c api.FsConfig) (*simfs.FS, *spill.Reader) {
	t.Helper()
	s := system(t, api.FsConfig{})
	want(t, "Put", s.Put("in", data), api.OK)
	r, e := spill.Open(openFile(t, s, "in", api.ModeRead, c), buf)
	if r == nil || e != api.OK {
		t.Fatalf("Open(%d): %d", buf, e)
	}
	return s, r
}

// gives asks for the next record, which must be there, with so many Reads made so far.
func gives(t *testing.T, s *simfs.FS, r *spill.Reader, rec api.Rec, reads int) {
	t.Helper()
	got, ok, e := r.Next()
	if got != rec || !ok || e != api.OK {
		t.Errorf("Next: %s, %v, %d, want %s", brief([]api.Rec{got}), ok, e, brief([]api.Rec{rec}))
	}
	calls(t, s, api.OpRead, reads)
}

// ends asks for the next record, which must not be there, with this error, or none at the end.
func ends(t *testing.T, s *simfs.FS, r *spill.Reader, wanted api.Errno, reads int) {
	t.Helper()
	got, ok, e := r.Next()
	if got != (api.Rec{}) || ok || e != wanted {
		t.Errorf("Next: %s, %v, %d, want %d", brief([]api.Rec{got}), ok, e, wanted)
	}
	calls(t, s, api.OpRead, reads)
}

// calls tells that so many calls were made, all of this kind.
func calls(t *testing.T, s *simfs.FS, kind api.Op, n int) {
	t.Helper()
	want(t, "calls of the kind", s.Stats().By[kind], n)
	want(t, "calls", s.Stats().Calls, n)
}

// holds tells what stands in the file out, and that so many Writes were made, and no other call.
func holds(t *testing.T, s *simfs.FS, data []byte, writes int) {
	t.Helper()
	got, _ := s.Look("out")
	if !bytes.Equal(got, data) {
		t.Errorf("out: %s, want %s", hex(got), hex(data))
	}
	calls(t, s, api.OpWrite, writes)
}

// fault is a plan that refuses one call.
func fault(kind api.Op, nth int) api.FsConfig {
	return api.FsConfig{Faults: []api.Fault{{Op: kind, Nth: nth}}}
}

// named is a list of records with a name.
type named struct {
	name string
	l    []api.Rec
}

// lists are records of many kinds, the same ones each time.
func lists() []named {
	r := rand.New(rand.NewSource(7))
	var many, dull []api.Rec
	for i := range 300 {
		b := make([]byte, r.Intn(40))
		r.Read(b)
		many = append(many, api.Rec{Seq: r.Uint64() >> r.Intn(64), Line: string(b)})
		dull = append(dull, api.Rec{Seq: uint64(i), Line: "the same line as ever\x00"})
	}
	var numbers []api.Rec
	for i := range 64 {
		numbers = append(numbers, api.Rec{Seq: 1 << i}, api.Rec{Seq: 1<<i - 1, Line: strings.Repeat("n", i)})
	}
	return []named{
		{"none", nil}, {"one", []api.Rec{rec(300, "ab")}}, {"two", []api.Rec{rec(300, "ab"), rec(0, "")}}, {"empty ones", make([]api.Rec, 9)},
		{"many", many}, {"dull", dull}, {"numbers", append(numbers, rec(1<<64-1, "\xff"))},
		{"lengths", []api.Rec{rec(1, xs(127)), rec(2, xs(128)), rec(3, xs(16383)), rec(4, xs(16384)), rec(5, "x")}},
		{"the longest", []api.Rec{rec(1, "a"), rec(1<<63, xs(api.MaxLine)), rec(2, xs(api.MaxLine-1)), rec(3, "b")}},
	}
}

// rec is a record.
func rec(seq uint64, line string) api.Rec { return api.Rec{Seq: seq, Line: line} }

func xs(n int) string { return strings.Repeat("x", n) }

// infoOf tells what a RunInfo should say.
func infoOf(l []api.Rec, block int, file []byte) api.RunInfo {
	raw := stream(l...)
	return api.RunInfo{Records: len(l), Bytes: len(file), Blocks: (len(raw) + block - 1) / block, Sum: crc32.ChecksumIEEE(raw)}
}

// texts are all strings of at most most bytes of an alphabet, the empty one first.
func texts(alphabet string, most int) []string {
	l := []string{""}
	for from := 0; most > 0; most-- {
		to := len(l)
		for _, s := range l[from:to] {
			for i := range alphabet {
				l = append(l, s+alphabet[i:i+1])
			}
		}
		from = to
	}
	return l
}

// memory is where something lies: from its first byte up to, but without, its last.
type memory struct{ from, to uintptr }

// ofList gives a list's memory, spare room included.
func ofList[T any](l []T) memory {
	var one T
	from := uintptr(unsafe.Pointer(unsafe.SliceData(l)))
	return memory{from, from + uintptr(cap(l))*unsafe.Sizeof(one)}
}

// ofText gives a text's memory; one of a single byte has none of its own.
func ofText(s string) memory {
	if len(s) < 2 {
		return memory{}
	}
	from := uintptr(unsafe.Pointer(unsafe.StringData(s)))
	return memory{from, from + uintptr(len(s))}
}

// apart tells that no two of these share memory.
func apart(t *testing.T, what string, l ...memory) {
	t.Helper()
	for i, a := range l {
		for k, b := range l[i+1:] {
			if a.from < a.to && b.from < b.to && a.from < b.to && b.from < a.to {
				t.Errorf("%s: %d and %d share memory", what, i, i+1+k)
			}
		}
	}
}

// roomy gives a copy of a list with spare room behind it that holds a mark.
func roomy[T any](l []T, mark T) []T {
	r := make([]T, len(l), len(l)+5)
	copy(r, l)
	spare := r[len(l):cap(r)]
	for i := range spare {
		spare[i] = mark
	}
	return r
}

// untouched tells that a list that roomy gave is as it was.
func untouched[T comparable](t *testing.T, what string, got, l []T, mark T) {
	t.Helper()
	for i, x := range got[:cap(got)] {
		if i < len(l) && x != l[i] || i >= len(l) && x != mark {
			t.Errorf("%s: item %d has been changed", what, i)
			return
		}
	}
}
