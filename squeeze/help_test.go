package squeeze_test

import (
	"bytes"
	"hash/crc32"
	"math/rand"
	"strings"
	"testing"
	"unsafe"

	"mill/api"
	"mill/squeeze"
)

// want compares two values, and tells what they are of.
func want[T comparable](t *testing.T, what string, got, wanted T) {
	t.Helper()
	if got != wanted {
		t.Errorf("%s: %+v, want %+v", what, got, wanted)
	}
}

// big gives a number in so many bytes, the highest one first.
func big(n uint32, size int) []byte {
	b := []byte{byte(n >> 24), byte(n >> 16), byte(n >> 8), byte(n)}
	return b[4-size:]
}

// join lays bytes one behind the other.
func join(pieces ...[]byte) []byte { return bytes.Join(pieces, nil) }

// withSum gives bytes and their sum behind them, by the library's own sum.
func withSum(b []byte) []byte { return join(b, big(crc32.ChecksumIEEE(b), 4)) }

// block gives a block with this head and body, and the sums that they have.
func block(first, mode byte, raw, length int, body []byte) []byte {
	head := join([]byte{first, mode}, big(uint32(raw), 3), big(uint32(length), 3))
	return join(withSum(head), withSum(body))
}

// packedBlock gives a block of mode 2 whose body has these bits, filled up to a whole byte; blanks in between do not count.
func packedBlock(raw int, text string) []byte {
	body := filled(text)
	return block(0xB5, 2, raw, len(body), body)
}

// filled gives the bytes of bits, with bits 0 up to a whole byte.
func filled(text string) []byte {
	text = strings.ReplaceAll(text, " ", "")
	text += strings.Repeat("0", (8-len(text)%8)%8)
	b := make([]byte, len(text)/8)
	for i := range text {
		b[i/8] = b[i/8]<<1 | (text[i] - '0')
	}
	return b
}

// bitText gives the bits of bytes.
func bitText(b []byte) string {
	var s strings.Builder
	for _, x := range b {
		s.WriteString(binary(int(x), 8))
	}
	return s.String()
}

// binary gives the lowest size bits of a number.
func binary(n, size int) string {
	s := ""
	for i := range size {
		s = string(rune('0'+n>>i&1)) + s
	}
	return s
}

// lengthsText gives the bits of the lengths of both codes, of which some symbols, by their numbers over both codes, have one; each run has at most longest symbols.
func lengthsText(of map[int]int, longest int) string {
	s := ""
	for at := 0; at < 302; {
		n := 1
		for n < longest && at+n < 302 && of[at+n] == of[at] {
			n++
		}
		s += binary(of[at], 4) + binary(n-1, 4)
		at += n
	}
	return s
}

// packed gives the packed block of b.
func packed(t *testing.T, b []byte) []byte {
	t.Helper()
	p, e := squeeze.Pack(b)
	if e != api.OK {
		t.Fatalf("Pack of %d bytes: %d", len(b), e)
	}
	return p
}

// stored gives the stored block of b.
func stored(t *testing.T, b []byte) []byte {
	t.Helper()
	p, e := squeeze.Store(b)
	if e != api.OK {
		t.Fatalf("Store of %d bytes: %d", len(b), e)
	}
	return p
}

// gives tells that Unpack gives these raw bytes.
func gives(t *testing.T, what string, b []byte, most int, raw []byte) {
	t.Helper()
	got, place, e := squeeze.Unpack(b, most)
	if !bytes.Equal(got, raw) || place != 0 || e != api.OK {
		t.Errorf("%s: Unpack: %d bytes, place %d, errno %d, want %d bytes", what, len(got), place, e, len(raw))
	}
}

// refuses tells that Unpack refuses a block at this place.
func refuses(t *testing.T, what string, b []byte, most int, place int, wanted api.Errno) {
	t.Helper()
	got, at, e := squeeze.Unpack(b, most)
	if got != nil || at != place || e != wanted {
		t.Errorf("%s: Unpack: %d bytes, place %d, errno %d, want place %d, errno %d", what, len(got), at, e, place, wanted)
	}
}

// named is a block of raw bytes with a name.
type named struct {
	name string
	b    []byte
}

// blocks are raw bytes of many kinds, the same ones each time.
func blocks() []named {
	r := rand.New(rand.NewSource(6))
	random := func(n, unlike int) []byte {
		b := make([]byte, n)
		for i := range b {
			b[i] = byte(r.Intn(unlike))
		}
		return b
	}
	words := []string{"the ", "mill ", "sorts ", "lines\n", "of ", "text ", "10", "\x00", "\xff\xfe", ", "}
	var text strings.Builder
	for text.Len() < 20000 {
		text.WriteString(words[r.Intn(len(words))])
	}
	far := random(3000, 256)
	l := []named{
		{"nothing", nil}, {"one byte", []byte("x")}, {"two bytes", []byte("xy")}, {"three", []byte("xxx")}, {"a word", []byte("abracadabra")},
		{"a thousand a", bytes.Repeat([]byte("a"), 1000)}, {"all bytes", random(70000, 256)}, {"two unlike", random(5000, 2)}, {"sixteen unlike", random(5000, 16)}, {"seventeen unlike", random(5000, 17)},
		{"text", []byte(text.String())}, {"sorted", bytes.Repeat([]byte("the same line\n"), 3000)},
		{"far", join(far, random(29768, 3), far)}, {"as far as may be", join(far[:40], random(32728, 3), far)}, {"too far", join(far[:40], random(32729, 3), far)},
	}
	rising := []byte{}
	for i := range 30 {
		rising = append(rising, bytes.Repeat([]byte{byte(i)}, 1<<min(i, 15))...)
	}
	shuffled := bytes.Clone(rising)
	r.Shuffle(len(shuffled), func(i, k int) { shuffled[i], shuffled[k] = shuffled[k], shuffled[i] })
	return append(l, named{"rising counts", rising}, named{"rising counts, shuffled", shuffled})
}

// memory is where something lies: from its first byte up to, but without, its last.
type memory struct{ from, to uintptr }

// ofList gives a list's memory, spare room included.
func ofList[T any](l []T) memory {
	var one T
	from := uintptr(unsafe.Pointer(unsafe.SliceData(l)))
	return memory{from, from + uintptr(cap(l))*unsafe.Sizeof(one)}
}

// apart tells that no two of these share memory.
func apart(t *testing.T, what string, l ...memory) {
	t.Helper()
	for i, a := range l {
		for k, b := range l[i+1:] {
			if a.from < a.to && b.from < b.to && a.from < b.to && b.from < a.to {
				t.Errorf("%s: %d and %d share memory", what, i, i+1+k)
			}
		}
	}
}

// roomy gives a copy of a list with spare room behind it that holds a mark.
func roomy[T any](l []T, mark T) []T {
	r := make([]T, len(l), len(l)+5)
	copy(r, l)
	spare := r[len(l):cap(r)]
	for i := range spare {
		spare[i] = mark
	}
	return r
}

// untouched tells that a list that roomy gave is as it was.
func untouched[T comparable](t *testing.T, what string, got, l []T, mark T) {
	t.Helper()
	for i, x := range got[:cap(got)] {
		if i < len(l) && x != l[i] || i >= len(l) && x != mark {
			t.Errorf("%s: item %d has been changed", what, i)
			return
		}
	}
}
