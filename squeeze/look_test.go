package squeeze_test

import (
	"math/rand"
	"testing"

	"mill/api"
	"mill/squeeze"
)

// looks tells what Look answers.
func looks(t *testing.T, what string, b []byte, wanted api.Packed, place int, e api.Errno) {
	t.Helper()
	p, at, errno := squeeze.Look(b)
	if p != wanted || at != place || errno != e {
		t.Errorf("%s: Look: %+v, place %d, errno %d, want %+v, %d, %d", what, p, at, errno, wanted, place, e)
	}
}

// headOf gives a head whose sum is right, or turned at one bit.
func headOf(first, mode byte, raw, length int, right bool) []byte {
	b := block(first, mode, raw, length, nil)[:12]
	if !right {
		b[11] ^= 1
	}
	return b
}

// P6.6: what a head says is told, whatever stands behind it.
func TestLook(t *testing.T) {
	for _, c := range []struct{ mode, raw, length int }{{1, 0, 0}, {1, 1, 1}, {1, api.MaxPacked, api.MaxPacked}, {2, 1, 1}, {2, 4, 24}, {2, api.MaxPacked, 1}, {2, 1, api.MaxPacked}, {2, 0x010203, 0x040506}, {1, 0x0A0B0C, 0x0A0B0C}} {
		head := headOf(0xB5, byte(c.mode), c.raw, c.length, true)
		wanted := api.Packed{Mode: c.mode, Raw: c.raw, Body: c.length, Size: 16 + c.length}
		looks(t, "a head alone", head, wanted, 0, api.OK)
		looks(t, "with bytes behind it", join(head, []byte("any bytes")), wanted, 0, api.OK)
	}
	for _, n := range blocks() {
		b := packed(t, n.b)
		p, place, e := squeeze.Look(b)
		if p.Raw != len(n.b) || p.Body != len(b)-16 || p.Size != len(b) || p.Mode != int(b[1]) || place != 0 || e != api.OK {
			t.Errorf("%s: Look: %+v, %d, %d", n.name, p, place, e)
		}
		b = stored(t, n.b)
		looks(t, n.name, b, api.Packed{Mode: 1, Raw: len(n.b), Body: len(n.b), Size: len(b)}, 0, api.OK)
	}
}

// P6.6: each error has its place, and the first one in the chapter's order is told, whatever else is wrong.
func TestLookRefuses(t *testing.T) {
	whole := headOf(0xB5, 1, 0, 0, true)
	for n := range 12 {
		looks(t, "too short", whole[:n], api.Packed{}, n, api.ErrCut)
		looks(t, "too short, all wrong", make([]byte, n), api.Packed{}, n, api.ErrCut)
	}
	for _, c := range []struct {
		what        string
		first, mode byte
		raw, length int
		right       bool
		place       int
		e           api.Errno
	}{
		{"another first byte", 0xB4, 1, 3, 3, true, 0, api.ErrPacked},
		{"first byte and all else", 0x00, 7, 0, 9, false, 0, api.ErrPacked},
		{"mode 0", 0xB5, 0, 3, 3, true, 1, api.ErrPacked},
		{"mode 3", 0xB5, 3, 3, 3, true, 1, api.ErrPacked},
		{"mode 255 and all else", 0xB5, 255, 0, 9, false, 1, api.ErrPacked},
		{"the sum", 0xB5, 1, 3, 3, false, 8, api.ErrSum},
		{"the sum, and N of 0", 0xB5, 2, 0, 0, false, 8, api.ErrSum},
		{"the sum, and L", 0xB5, 1, 3, 4, false, 8, api.ErrSum},
		{"N of 0", 0xB5, 2, 0, 5, true, 2, api.ErrPacked},
		{"N of 0, and L of 0", 0xB5, 2, 0, 0, true, 2, api.ErrPacked},
		{"L of 0", 0xB5, 2, 5, 0, true, 5, api.ErrPacked},
		{"L above N", 0xB5, 1, 3, 4, true, 5, api.ErrPacked},
		{"L below N", 0xB5, 1, 4, 3, true, 5, api.ErrPacked},
		{"L of 0, N not", 0xB5, 1, 4, 0, true, 5, api.ErrPacked},
		{"N of 0, L not", 0xB5, 1, 0, 4, true, 5, api.ErrPacked},
		{"L unlike N in the highest byte", 0xB5, 1, 0x010000, 0x020000, true, 5, api.ErrPacked},
	} {
		head := headOf(c.first, c.mode, c.raw, c.length, c.right)
		looks(t, c.what, head, api.Packed{}, c.place, c.e)
		looks(t, c.what+", with more", join(head, make([]byte, 40)), api.Packed{}, c.place, c.e)
		refuses(t, c.what, head, -1, c.place, c.e)
	}
}

// P6.6: a head whose sum is turned at any of its bits is told to be so.
func TestLookAtSums(t *testing.T) {
	r := rand.New(rand.NewSource(7))
	for range 50 {
		head := headOf(0xB5, 2, 1+r.Intn(1<<24-1), 1+r.Intn(1<<24-1), true)
		for bit := range 32 {
			head[8+bit/8] ^= 1 << (bit % 8)
			looks(t, "a bit turned", head, api.Packed{}, 8, api.ErrSum)
			head[8+bit/8] ^= 1 << (bit % 8)
		}
	}
}
