package squeeze_test

import (
	"bytes"
	"math/rand"
	"testing"

	"mill/api"
	"mill/squeeze"
)

// turn turns the bits of b that a mask of 32 neighbouring ones says, from the bit number at on; the lowest bit of each byte is counted first.
func turn(b []byte, at int, mask uint32) {
	for i := range 32 {
		if mask>>i&1 == 1 && at+i < 8*len(b) {
			b[(at+i)/8] ^= 1 << ((at + i) % 8)
		}
	}
}

// P6.8: bits turned within 32 neighbouring ones, all of the head or all of the body: Unpack does not take the block, and says that it is a sum, where the head's first two bytes are as they were.
func TestTurnedBits(t *testing.T) {
	r := rand.New(rand.NewSource(12))
	masks := []uint32{1, 3, 5, 1<<31 | 1, 1<<32 - 1, 0x04C11DB7, 0xEDB88320, 0x82608EDB, 0xDB710641}
	for len(masks) < 60 {
		masks = append(masks, r.Uint32()|1)
	}
	for _, raw := range [][]byte{[]byte("some bytes of no kind"), bytes.Repeat([]byte("the same line\n"), 20), nil} {
		for _, b := range [][]byte{stored(t, raw), packed(t, raw)} {
			for _, part := range []struct{ from, to, sum int }{{0, 8, 8}, {12, len(b) - 4, len(b) - 4}} {
				for at := range 8 * (part.to - part.from) {
					for _, mask := range masks {
						c := bytes.Clone(b)
						turn(c[part.from:part.to], at, mask)
						if bytes.Equal(c, b) { // all of the mask's bits lie behind the part
							continue
						}
						got, place, e := squeeze.Unpack(c, len(raw))
						if e == api.OK || got != nil {
							t.Fatalf("%d bytes: bits %x turned from bit %d of byte %d on: taken", len(raw), mask, at, part.from)
						}
						if bytes.Equal(c[:2], b[:2]) && (e != api.ErrSum || place != part.sum) {
							t.Fatalf("%d bytes: bits %x turned from bit %d of byte %d on: place %d, errno %d", len(raw), mask, at, part.from, place, e)
						}
					}
				}
			}
		}
	}
}
