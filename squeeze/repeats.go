package squeeze

import (
	"math/bits"

	"mill/api"
)

const (
	shortest = 3 // bytes of a repeat

	// mostTries is how many places are tried for a repeat. In a block that goes round after at most 100 bytes the place one round back must be among them: it is, since the nearest come first.
	mostTries = 128

	mostKeyBits = 15
	keyFactor   = 0x9E3779B1 // odd, its bits well mixed
)

// repeat is a piece of a block that stands in it so many bytes earlier, too.
type repeat struct {
	at     uint32
	back   uint16
	length uint8
}

// finder knows where in a block pieces with the same key began. Its places are one too high, so that 0 is none.
type finder struct {
	b       []byte
	keyBits int
	latest  []int32 // by key
	earlier []int32 // by a place modulo its length: the place ahead of it that has its key
}

// newFinder gives a finder that has as much room as the block needs, and no more than MaxBack wants.
func newFinder(b []byte) *finder {
	keyBits := min(bits.Len(uint(len(b))), mostKeyBits)
	return &finder{b, keyBits, make([]int32, 1<<keyBits), make([]int32, min(len(b), api.MaxBack))}
}

// repeatsOf gives the repeats of a block, in order, none over another.
func repeatsOf(b []byte) []repeat {
	f := newFinder(b)
	var found []repeat
	for at := 0; at < len(b); {
		length, back := f.longest(at)
		if length >= shortest {
			found = append(found, repeat{uint32(at), uint16(back), uint8(length)})
		}
		for range max(1, length) {
			f.note(at)
			at++
		}
	}
	return found
}

// key gives the key of the piece that begins at a place: of its first bytes.
func (f *finder) key(at int) uint32 {
	k := uint32(f.b[at])<<16 | uint32(f.b[at+1])<<8 | uint32(f.b[at+2])
	return k * keyFactor >> (32 - f.keyBits)
}

// note keeps a place for those behind it.
func (f *finder) note(at int) {
	if at+shortest <= len(f.b) {
		latest := &f.latest[f.key(at)]
		f.earlier[at%len(f.earlier)] = *latest
		*latest = int32(at + 1)
	}
}

// longest gives the longest repeat at a place, of those that are tried; its length is 0 if there is none.
func (f *finder) longest(at int) (length, back int) {
	most := min(api.MaxMatch, len(f.b)-at)
	if most < shortest {
		return 0, 0
	}
	length = shortest - 1
	from := int(f.latest[f.key(at)]) - 1
	for range mostTries {
		if length == most || from < 0 || at-from > api.MaxBack {
			break
		}
		if n := f.alike(from, at, length, most); n > length {
			length, back = n, at-from
		}
		from = int(f.earlier[from%len(f.earlier)]) - 1
	}
	if back == 0 {
		return 0, 0
	}
	return length, back
}

// alike tells how many bytes, at most most, are the same at two places, or 0 where they can't be more than so many as are found already.
func (f *finder) alike(from, at, found, most int) int {
	if f.b[from+found] != f.b[at+found] {
		return 0
	}
	n := 0
	for n < most && f.b[from+n] == f.b[at+n] {
		n++
	}
	return n
}
