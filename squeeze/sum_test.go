package squeeze_test

import (
	"hash/crc32"
	"hash/fnv"
	"math/rand"
	"testing"

	"mill/squeeze"
)

// P6.1: the sum of the text that the chapter names, of nothing, and of single bytes and texts of any kind, as the library's own sums are.
func TestSum(t *testing.T) {
	want(t, "the sum of the chapter's text", squeeze.Sum([]byte("123456789")), 0xCBF43926)
	want(t, "of nothing", squeeze.Sum(nil), 0)
	want(t, "of an empty list", squeeze.Sum([]byte{}), 0)
	for x := range 256 {
		b := []byte{byte(x)}
		want(t, "of a byte", squeeze.Sum(b), crc32.ChecksumIEEE(b))
	}
	for _, n := range blocks() {
		want(t, n.name, squeeze.Sum(n.b), crc32.ChecksumIEEE(n.b))
	}
}

// P6.1: SumMore goes on from a text's sum, wherever the text is cut, and from any sum.
func TestSumMore(t *testing.T) {
	text := []byte("one text\x00of some\xff bytes")
	for i := range len(text) + 1 {
		want(t, "cut", squeeze.SumMore(squeeze.Sum(text[:i]), text[i:]), squeeze.Sum(text))
	}
	r := rand.New(rand.NewSource(1))
	for range 1000 {
		sum := r.Uint32()
		want(t, "nothing more", squeeze.SumMore(sum, nil), sum)
		want(t, "any sum", squeeze.SumMore(sum, text), crc32.Update(sum, crc32.IEEETable, text))
	}
}

// P6.1: Hash is FNV-1a of 64 bits.
func TestHash(t *testing.T) {
	want(t, "of nothing", squeeze.Hash(nil), 0xCBF29CE484222325)
	want(t, "of a", squeeze.Hash([]byte("a")), 0xAF63DC4C8601EC8C)
	want(t, "of foobar", squeeze.Hash([]byte("foobar")), 0x85944171F73967E8)
	for _, n := range blocks() {
		h := fnv.New64a()
		h.Write(n.b)
		want(t, n.name, squeeze.Hash(n.b), h.Sum64())
	}
}
