package squeeze_test

import (
	"bytes"
	"fmt"
	"math"
	"math/rand"
	"testing"

	"mill/api"
	"mill/squeeze"
)

// P6.4: Bound.
func TestBound(t *testing.T) {
	for _, c := range []struct{ n, want int }{
		{0, 16}, {1, 17}, {65536, 65552}, {api.MaxPacked, api.MaxPacked + 16}, {api.MaxPacked + 1, 0}, {-1, 0}, {math.MinInt, 0}, {math.MaxInt, 0},
	} {
		want(t, fmt.Sprint("Bound of ", c.n), squeeze.Bound(c.n), c.want)
	}
}

// P6.4: Store gives the block of mode 1, to the byte.
func TestStore(t *testing.T) {
	for _, n := range blocks() {
		b, e := squeeze.Store(n.b)
		if !bytes.Equal(b, block(0xB5, 1, len(n.b), len(n.b), n.b)) || e != api.OK {
			t.Errorf("Store of %s: %d bytes, %d", n.name, len(b), e)
		}
		want(t, "the bound", len(b), squeeze.Bound(len(n.b)))
	}
}

// P6.4, P6.5, P6.8: blocks of MaxPacked bytes are taken, those of one more are not.
func TestMostBytes(t *testing.T) {
	b := bytes.Repeat([]byte("0123456789abcdef-----------"), api.MaxPacked/27+1)[:api.MaxPacked]
	gives(t, "stored", stored(t, b), api.MaxPacked, b)
	p := packed(t, b)
	gives(t, "packed", p, api.MaxPacked, b)
	if len(p) > 360+2*27+api.MaxPacked/30 {
		t.Errorf("Pack: %d bytes", len(p))
	}
	b = append(b, 0)
	if p, e := squeeze.Pack(b); p != nil || e != api.ErrMost {
		t.Errorf("Pack: %d bytes, %d", len(p), e)
	}
	if p, e := squeeze.Store(b); p != nil || e != api.ErrMost {
		t.Errorf("Store: %d bytes, %d", len(p), e)
	}
}

// P6.5: as many bytes as can be that don't pack: no more than the bound.
func TestPackOfMostRandom(t *testing.T) {
	b := make([]byte, api.MaxPacked)
	rand.New(rand.NewSource(4)).Read(b)
	p := packed(t, b)
	want(t, "bytes", len(p), squeeze.Bound(api.MaxPacked))
	gives(t, "random", p, api.MaxPacked, b)
}

// P6.5, P6.8: of blocks of many kinds Pack and Store give blocks that Unpack gives back, with just as much room as they need and with more; no packed one is longer than its bound.
func TestPack(t *testing.T) {
	for _, n := range blocks() {
		p := packed(t, n.b)
		if len(p) > squeeze.Bound(len(n.b)) {
			t.Errorf("%s: %d bytes are packed into %d", n.name, len(n.b), len(p))
		}
		for _, most := range []int{len(n.b), len(n.b) + 1, math.MaxInt} {
			gives(t, n.name+", packed", p, most, n.b)
			gives(t, n.name+", stored", stored(t, n.b), most, n.b)
		}
		refuses(t, n.name+", packed", p, len(n.b)-1, 2, api.ErrMost)
		refuses(t, n.name+", stored", stored(t, n.b), math.MinInt, 2, api.ErrMost)
	}
}

// P6.5: with at most 16 unlike values a block is packed to half its bytes and 360 more; whatever these values are, and however often each comes.
func TestPackOfFewValues(t *testing.T) {
	r := rand.New(rand.NewSource(5))
	for i := range 60 {
		unlike := 1 + i%16
		values := r.Perm(256)[:unlike]
		b := make([]byte, r.Intn(20000))
		for i := range b {
			b[i] = byte(values[r.Intn(unlike)])
			if i > 5000 && r.Intn(3) > 0 {
				b[i] = b[i-r.Intn(5000)]
			}
		}
		p := packed(t, b)
		gives(t, "few values", p, len(b), b)
		if len(p) > 360+len(b)/2 {
			t.Errorf("%d bytes of %d values: packed %d", len(b), unlike, len(p))
		}
	}
	for n := range 800 {
		b := make([]byte, n)
		for i := range b {
			b[i] = byte(17 * r.Intn(16))
		}
		if p := packed(t, b); len(p) > min(360+n/2, squeeze.Bound(n)) {
			t.Errorf("%d bytes of 16 values: packed %d", n, len(p))
		}
	}
}

// rounds gives n bytes that go round after p, made so that it is hard to see where: kind 0 any bytes, kind 1 one byte in all places but the last, kind 2 few values, kind 3 pieces that are nearly the same.
func rounds(r *rand.Rand, n, p, kind int) []byte {
	first := make([]byte, p)
	for i := range first {
		switch kind {
		case 0:
			first[i] = byte(r.Intn(256))
		case 1:
			first[i] = 'a'
			if i == p-1 {
				first[i] = 'b'
			}
		case 2:
			first[i] = byte(r.Intn(2))
		case 3:
			first[i] = "abcabcab"[i%8] + byte(r.Intn(20)/19)
		}
	}
	return bytes.Repeat(first, n/p+1)[:n]
}

// P6.5: a block that goes round after p bytes, p from 1 to 100, is packed to a thirtieth, twice p and 360 more.
func TestPackOfRounds(t *testing.T) {
	r := rand.New(rand.NewSource(6))
	for p := 1; p <= 100; p++ {
		for kind := range 4 {
			for _, n := range []int{p, p + 2, 2*p + 1, 3000, 40000 + r.Intn(40000)} {
				b := rounds(r, n, p, kind)
				got := packed(t, b)
				gives(t, "rounds", got, n, b)
				if len(got) > 360+2*p+n/30 {
					t.Errorf("%d bytes that go round after %d, kind %d: packed %d", n, p, kind, len(got))
				}
			}
		}
	}
}

// P6.5: each of 100 bytes' places is tried that lies one round back, though the nearer ones begin alike.
func TestPackOfLikeBeginnings(t *testing.T) {
	for _, p := range []int{97, 98, 99, 100} {
		for cut := 3; cut < 20; cut++ {
			first := bytes.Repeat([]byte("ab"), p)[:p]
			for i := cut; i < p; i += cut {
				first[i] = byte('c' + i%7)
			}
			b := bytes.Repeat(first, 60000/p)
			if got := packed(t, b); len(got) > 360+2*p+len(b)/30 {
				t.Errorf("%d bytes that go round after %d: packed %d", len(b), p, len(got))
			}
		}
	}
}
