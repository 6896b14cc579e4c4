package temps_test

import (
	"bytes"
	"encoding/binary"
	"math"
	"math/rand"
	"slices"
	"strings"
	"testing"

	"mill/api"
	"mill/temps"
)

// P11.7: the bytes of each kind, laid by hand.
func TestEncodeKinds(t *testing.T) {
	for _, c := range []struct {
		e    api.Entry
		body string
	}{
		{job(0), "\x01\x00\x00\x00\x00\x00\x00\x00\x00"},
		{job(0x0102030405060708), "\x01\x01\x02\x03\x04\x05\x06\x07\x08"},
		{job(math.MaxUint64), "\x01\xff\xff\xff\xff\xff\xff\xff\xff"},
		{making("a"), "\x02\x01a"},
		{making("t.00001"), "\x02\x07t.00001"},
		{making(strings.Repeat("\xff", 64)), "\x02\x40" + strings.Repeat("\xff", 64)},
		{run("ab", 0x010203, 0x0102030405, 0x0f0e0d0c0b, 0x01020304), "\x03\x02ab\x00\x01\x02\x03\x00\x00\x00\x01\x02\x03\x04\x05\x00\x00\x00\x0f\x0e\x0d\x0c\x0b\x01\x02\x03\x04"},
		{run("a", 131071, 1<<40, 1<<40, 1<<32-1), "\x03\x01a\x00\x01\xff\xff\x00\x00\x01\x00\x00\x00\x00\x00\x00\x00\x01\x00\x00\x00\x00\x00\xff\xff\xff\xff"},
		{run("a", 0, 0, 0, 0), "\x03\x01a" + strings.Repeat("\x00", 24)},
		{api.Entry{Kind: api.EntryAll}, "\x04"},
		{merged("a", 7, 5, 9, 0), "\x05\x01a\x00\x00\x00\x07\x00\x00\x00\x00\x00\x00\x00\x05\x00\x00\x00\x09\x01\x00\x00\x00\x00"},
		{merged("a", 0, 0, 0, 3, 258, 131071), "\x05\x01a" + strings.Repeat("\x00", 16) + "\x03\x00\x00\x00\x03\x00\x00\x01\x02\x00\x01\xff\xff"},
		{api.Entry{Kind: api.EntryOutput}, "\x06"},
		{api.Entry{Kind: api.EntryOutput, In: []int{}}, "\x06"},
	} {
		for _, n := range []int{0, 1, 255, 256, 0x01020304, math.MaxInt32 - 1, math.MaxInt32} {
			encodes(t, n, c.e, sealed(uint32(n), []byte(c.body)))
		}
	}
}

// P11.7: numbers that may not be, ahead of entries that may not be.
func TestEncodeNumbers(t *testing.T) {
	for _, n := range []int{-1, math.MinInt, -1 << 31, 1 << 31, 1<<32 - 1, 1 << 32, math.MaxInt} {
		encodesNone(t, n, job(1), api.ErrArg)
		encodesNone(t, n, api.Entry{}, api.ErrArg)
	}
	encodesNone(t, 0, api.Entry{}, api.ErrJournal)
	encodesNone(t, math.MaxInt32, api.Entry{}, api.ErrJournal)
}

// P11.7: of each kind, whichever of the fields are filled: those that it uses may be, the name and the runs must be, no other may be.
func TestEncodeFields(t *testing.T) {
	kinds := []api.EntryKind{0, 1, 2, 3, 4, 5, 6, 7, 8, 127, 128, 255}
	counts := map[api.EntryKind]int{1: 2, 2: 1, 3: 16, 4: 1, 5: 8, 6: 1}
	for _, kind := range kinds {
		fine := 0
		for set := range 128 {
			e := api.Entry{Kind: kind}
			for i, fill := range []func(){
				func() { e.Print = 1 << 63 }, func() { e.Name = "n" }, func() { e.Run = 5 }, func() { e.Records = 6 },
				func() { e.Lines = 7 }, func() { e.Sum = 1 << 31 }, func() { e.In = []int{0} },
			} {
				if set>>i&1 == 1 {
					fill()
				}
			}
			if modelMayBe(e) {
				fine++
				encodes(t, 3, e, sealed(3, modelBody(e)))
			} else {
				encodesNone(t, 3, e, api.ErrJournal)
			}
		}
		want(t, "entries that may be", fine, counts[kind])
	}
}

// P11.7: the bounds of each field, in each kind that uses it.
func TestEncodeBounds(t *testing.T) {
	encodesBoth := func(fine bool, e api.Entry) {
		t.Helper()
		want(t, "the model", modelMayBe(e), fine)
		if fine {
			encodes(t, 0, e, sealed(0, modelBody(e)))
			decodes(t, "what is fine", bytesOf(job(0), e), []api.Entry{job(0), e}, len(bytesOf(job(0), e)), api.OK)
		} else {
			encodesNone(t, 0, e, api.ErrJournal)
		}
	}
	numbers := func(fine bool, most int, set func(n int) []api.Entry) {
		t.Helper()
		l := []int{-1, math.MinInt, math.MaxInt, most + 1, -1 << 32, 1 << 62}
		if fine {
			l = []int{0, 1, 255, 256, 65535, 65536, most - 1, most}
		}
		for _, n := range l {
			for _, e := range set(n) {
				encodesBoth(fine, e)
			}
		}
	}
	for _, fine := range []bool{false, true} {
		numbers(fine, 131071, func(n int) []api.Entry { return []api.Entry{run("x", n, 1, 1, 1), merged("x", n, 1, 1, 1)} })
		numbers(fine, 1<<40, func(n int) []api.Entry {
			return []api.Entry{run("x", 1, n, 1, 1), run("x", 1, 1, n, 1), merged("x", 1, n, 1, 1)}
		})
		numbers(fine, 131071, func(n int) []api.Entry { return []api.Entry{merged("x", 1, 1, 1, n)} })
	}
	for _, e := range []api.Entry{run("x", 1<<32, 1, 1, 1), run("x", 1<<32+1, 1, 1, 1), merged("x", 1, 1, 1, 1<<32), merged("x", 1, 1, 1, -1<<32)} {
		encodesBoth(false, e)
	}
	for _, name := range []string{"x", "\xff", " ", "/", xs(63), xs(64)} {
		encodesBoth(true, making(name))
		encodesBoth(true, run(name, 1, 1, 1, 1))
		encodesBoth(true, merged(name, 1, 1, 1, 1))
	}
	for _, name := range []string{"", "\x00", "a\x00", "\x00a", xs(65), xs(255), xs(256), xs(257), xs(320), xs(70000), xs(63) + "\x00"} {
		encodesBoth(false, making(name))
		encodesBoth(false, run(name, 1, 1, 1, 1))
		encodesBoth(false, merged(name, 1, 1, 1, 1))
	}
	for _, in := range [][]int{{0, 1}, {131070, 131071}, {0, 131071}, {5, 7, 9}, upTo(63), upTo(64), upTo(131072)[131008:]} {
		encodesBoth(true, merged("x", 1, 1, 1, in...))
	}
	for _, in := range [][]int{nil, {}, {0, 0}, {1, 0}, {5, 7, 7}, {5, 7, 6}, {7, 5, 9}, {-1, 0}, {0, -1}, {131071, 131072}, {0, 131072, 3}, upTo(65), upTo(256), upTo(257), upTo(70000)} {
		encodesBoth(false, merged("x", 1, 1, 1, in...))
	}
}

// P11.8: journals of each kind of entry, whole, and cut at each place.
func TestDecodeCut(t *testing.T) {
	decodes(t, "nothing", nil, nil, 0, api.OK)
	decodes(t, "nothing", []byte{}, nil, 0, api.OK)
	l := every()
	b := bytesOf(l...)
	decodes(t, "all", b, l, len(b), api.OK)
	many := 0
	for cut := range b {
		if cut == len(bytesOf(l[:many+1]...)) {
			many++
		}
		whole, e := len(bytesOf(l[:many]...)), api.ErrTorn
		if cut == whole {
			e = api.OK
		}
		decodes(t, "cut", b[:cut], l[:many], whole, e)
	}
	want(t, "entries", many, len(l)-1)
}

// P11.8: any bit turned: what stands ahead of the entry in which it lies is taken.
func TestDecodeTurned(t *testing.T) {
	l := every()
	b := bytesOf(l...)
	for bit := range 8 * len(b) {
		c := bytes.Clone(b)
		c[bit/8] ^= 1 << (bit % 8)
		many := 0
		for len(bytesOf(l[:many+1]...)) <= bit/8 {
			many++
		}
		decodes(t, "turned", c, l[:many], len(bytesOf(l[:many]...)), api.ErrJournal)
	}
}

// P11.8: bodies that no entry has, under sums that are right.
func TestDecodeBodies(t *testing.T) {
	big := binary.BigEndian
	runBody := func(name string, n uint32, records, lines uint64) []byte {
		b := append([]byte{3, byte(len(name))}, name...)
		b = big.AppendUint64(big.AppendUint64(big.AppendUint32(b, n), records), lines)
		return append(b, 1, 2, 3, 4)
	}
	mergeBody := func(many byte, in ...uint32) []byte {
		b := append([]byte{5, 1, 'x', 0, 0, 0, 1, 0, 0, 0, 0, 0, 0, 0, 2, 0, 0, 0, 3}, many)
		for _, r := range in {
			b = big.AppendUint32(b, r)
		}
		return b
	}
	bodies := [][]byte{
		nil, {0}, {7}, {8}, {255}, {128}, {0, 1, 'x'}, {2}, {2, 0}, {2, 1}, {2, 2, 'x'}, {2, 1, 'x', 'x'}, {2, 1, 0}, {2, 2, 'x', 0}, {2, 255, 'x'},
		append([]byte{2, 65}, xs(65)...), {4, 0}, {6, 0}, {4, 4}, {3}, {5}, {3, 1, 'x'}, {5, 1, 'x'},
		runBody("", 1, 1, 1), runBody("\x00", 1, 1, 1), runBody(xs(65), 1, 1, 1), runBody("x", 131072, 1, 1), runBody("x", 1<<31, 1, 1), runBody("x", 1<<32-1, 1, 1),
		runBody("x", 1, 1<<40+1, 1), runBody("x", 1, 1, 1<<40+1), runBody("x", 1, 1<<63, 1), runBody("x", 1, 1, 1<<63), runBody("x", 1, 1<<64-1, 1), runBody("x", 1, 1, 1<<64-1),
		runBody("x", 1, 1, 1)[:26], append(runBody("x", 1, 1, 1), 0),
		mergeBody(0), mergeBody(1), mergeBody(1, 0, 1), mergeBody(2, 0), mergeBody(2, 0, 0), mergeBody(2, 1, 0), mergeBody(1, 131072), mergeBody(1, 1<<31), mergeBody(1, 1<<32-1), mergeBody(3, 0, 2, 1),
		mergeBody(2, 0, 1)[:27], append(mergeBody(2, 0, 1), 0), mergeBody(1)[:19], mergeBody(65, make([]uint32, 65)...), mergeBody(255, make([]uint32, 255)...),
	}
	first := bytesOf(job(7))
	for _, body := range bodies {
		b := append(bytes.Clone(first), sealed(1, body)...)
		decodes(t, "a bad body", b, []api.Entry{job(7)}, len(first), api.ErrJournal)
		// Whether it may be is asked only when it is there whole.
		decodes(t, "a bad body, cut", b[:len(b)-1], []api.Entry{job(7)}, len(first), api.ErrTorn)
	}
	fine := append(bytes.Clone(first), sealed(1, runBody("x", 131071, 1<<40, 1<<40))...)
	decodes(t, "a right body", fine, []api.Entry{job(7), run("x", 131071, 1<<40, 1<<40, 0x01020304)}, len(fine), api.OK)
	fine = append(bytes.Clone(first), sealed(1, mergeBody(2, 0, 131071))...)
	decodes(t, "a right body", fine, []api.Entry{job(7), merged("x", 1, 2, 3, 0, 131071)}, len(fine), api.OK)
	for _, body := range [][]byte{{1}, {1, 0, 0, 0, 0, 0, 0, 0}, {1, 0, 0, 0, 0, 0, 0, 0, 0, 0}} {
		decodes(t, "a bad job", sealed(0, body), nil, 0, api.ErrJournal)
	}
}

// P11.8: numbers that are not the next one, and kinds at the wrong place.
func TestDecodeOrder(t *testing.T) {
	first := bytesOf(job(7))
	body := modelBody(making("x"))
	for _, n := range []uint32{0, 2, 3, 256, 257, 1 << 24, 1<<24 + 1, 1 << 31, 1<<32 - 1} {
		b := append(bytes.Clone(first), sealed(n, body)...)
		decodes(t, "another number", b, []api.Entry{job(7)}, len(first), api.ErrJournal)
		decodes(t, "another number, cut behind its head", b[:len(first)+11], []api.Entry{job(7)}, len(first), api.ErrJournal)
		decodes(t, "another number, cut in its head", b[:len(first)+10], []api.Entry{job(7)}, len(first), api.ErrTorn)
	}
	for _, n := range []uint32{1, 2, 1 << 31, 1<<32 - 1} {
		decodes(t, "a first one of another number", sealed(n, modelBody(job(7))), nil, 0, api.ErrJournal)
	}
	for _, e := range every()[1:] {
		decodes(t, "no job first", bytesOf(e), nil, 0, api.ErrJournal)
		decodes(t, "no job first, cut", bytesOf(e)[:12], nil, 0, api.ErrTorn)
	}
	twice := bytesOf(job(7), making("x"), job(7))
	decodes(t, "a job twice", twice, []api.Entry{job(7), making("x")}, len(bytesOf(job(7), making("x"))), api.ErrJournal)
	decodes(t, "a job at once twice", bytesOf(job(7), job(8)), []api.Entry{job(7)}, len(first), api.ErrJournal)
}

// P11.8: which of several errors is told.
func TestDecodeWhichError(t *testing.T) {
	head := sealed(0, make([]byte, 65535))[:11]
	decodes(t, "a head alone", head, nil, 0, api.ErrTorn)
	decodes(t, "a head and less than it says", append(bytes.Clone(head), make([]byte, 65538)...), nil, 0, api.ErrTorn)
	decodes(t, "a head and what it says", append(bytes.Clone(head), make([]byte, 65539)...), nil, 0, api.ErrJournal)
	for long := 1; long < 12; long++ {
		b := slices.Repeat([]byte{0xE5}, long)
		e := api.ErrTorn
		if long > 10 {
			e = api.ErrJournal
		}
		decodes(t, "marks", b, nil, 0, e)
		b[0] = 0xE4
		decodes(t, "no mark", b, nil, 0, api.ErrJournal)
	}
	// The body's sum is looked at only when all of it is there.
	b := bytesOf(job(7))
	b[20] ^= 1
	decodes(t, "a spoilt sum, cut", b[:23], nil, 0, api.ErrTorn)
	decodes(t, "a spoilt sum", b, nil, 0, api.ErrJournal)
	b = bytesOf(job(7))
	b[12] ^= 1
	decodes(t, "a spoilt body, cut", b[:23], nil, 0, api.ErrTorn)
	decodes(t, "a spoilt body", b, nil, 0, api.ErrJournal)
}

// anyEntry draws an entry that may be, of no job.
func anyEntry(r *rand.Rand) api.Entry {
	b := make([]byte, 1+r.Intn(64))
	for i := range b {
		b[i] = byte(1 + r.Intn(255))
	}
	name, number, count := string(b), r.Intn(131072)>>r.Intn(18), int(r.Int63n(1<<40+1)>>r.Intn(41))
	switch r.Intn(5) {
	case 0:
		return making(name)
	case 1:
		return run(name, number, count, int(r.Int63n(1<<40+1)), r.Uint32())
	case 2:
		in := make([]int, 1+r.Intn(64))
		for i, at := range r.Perm(64)[:len(in)] {
			in[i] = at*2048 + r.Intn(2048)
		}
		slices.Sort(in)
		return merged(name, number, count, r.Uint32(), in...)
	case 3:
		return api.Entry{Kind: api.EntryAll}
	}
	return api.Entry{Kind: api.EntryOutput}
}

// P11.7, P11.8: any journals, whole and spoilt, held against the model.
func TestDecodeLikeModel(t *testing.T) {
	r := rand.New(rand.NewSource(12))
	ends := map[api.Errno]int{}
	for range 600 {
		l := []api.Entry{job(r.Uint64())}
		for range r.Intn(6) {
			l = append(l, anyEntry(r))
		}
		var b []byte
		for n, e := range l {
			x, errno := temps.Encode(n, e)
			want(t, "Encode", errno, api.OK)
			b = append(b, x...)
		}
		decodes(t, "whole", b, l, len(b), api.OK)
		for range 40 {
			c := spoilt(r, l)
			wl, wn, we := modelDecode(c)
			decodes(t, "spoilt", c, wl, wn, we)
			ends[we]++
		}
	}
	for _, e := range []api.Errno{api.OK, api.ErrTorn, api.ErrJournal} {
		if ends[e] < 1000 {
			t.Errorf("only %d ends with %d", ends[e], e)
		}
	}
}

// spoilt gives the bytes of entries with something changed.
func spoilt(r *rand.Rand, l []api.Entry) []byte {
	at := r.Intn(len(l))
	b := bytesOf(l...)
	switch r.Intn(6) {
	case 0:
		return b[:r.Intn(len(b)+1)]
	case 1:
		b[r.Intn(len(b))] ^= 1 << r.Intn(8)
		return b
	case 2:
		return append(b, b[:r.Intn(len(b))]...)
	case 3:
		return bytesOf(slices.Insert(slices.Clone(l), r.Intn(len(l)+1), l[at])...)
	case 4:
		return bytesOf(slices.Delete(slices.Clone(l), at, at+1)...)
	}
	// One body is changed, and its sum is right again.
	body := modelBody(l[at])
	switch k := r.Intn(len(body)); r.Intn(3) {
	case 0:
		body[k] = byte(r.Intn(9))
	case 1:
		body = slices.Insert(body, k, byte(r.Intn(3)))
	case 2:
		body = slices.Delete(body, k, k+1)
	}
	return slices.Concat(bytesOf(l[:at]...), sealed(uint32(at), body), bytesOf(l...)[len(bytesOf(l[:at+1]...)):])
}

// A journal of many entries is read in a time that does not grow with their square.
func TestDecodeMany(t *testing.T) {
	b := bytesOf(job(1))
	const many = 200000
	for n := 1; n < many; n++ {
		b = append(b, sealed(uint32(n), []byte{4})...)
	}
	l, n, e := temps.Decode(append(b, 0xE5))
	want(t, "entries", len(l), many)
	want(t, "bytes", n, len(b))
	want(t, "Decode", e, api.ErrTorn)
}

func xs(n int) string { return strings.Repeat("x", n) }
