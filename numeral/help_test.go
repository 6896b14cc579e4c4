package numeral_test

import (
	"math/rand"
	"strings"
	"testing"
	"unsafe"

	"mill/api"
)

// kinds are the five kinds and some that are none of these alone.
var kinds = []api.Mods{
	api.ModN, api.ModG, api.ModH, api.ModM, api.ModV,
	0, api.ModR, api.ModN | api.ModR, api.ModG | api.ModN, api.ModV | api.ModF, 1 << 15, 1<<16 - 1,
}

// want compares two values, and tells what they are of.
func want[T comparable](t *testing.T, what string, got, wanted T) {
	t.Helper()
	if got != wanted {
		t.Errorf("%s: %+v, want %+v", what, got, wanted)
	}
}

// texts are all strings of at most most bytes of an alphabet, the empty one first.
func texts(alphabet string, most int) []string {
	l := []string{""}
	for from := 0; most > 0; most-- {
		to := len(l)
		for _, s := range l[from:to] {
			for i := range len(alphabet) {
				l = append(l, s+alphabet[i:i+1])
			}
		}
		from = to
	}
	return l
}

// strange are texts of any bytes, the same ones at each run: most of them are made of pieces that numbers, months and versions are made of.
func strange(many int) []string {
	pieces := []string{
		" ", "\t", "\n", "\r", "\v", "-", "+", ".", ",", "0", "00", "7", "12", "500", "e", "E", "e+", "e-3", "inf", "INFINITY", "nan", "NaN",
		"K", "k", "M", "m", "G", "g", "T", "Q", "jan", "DEC", "oCt", "~", "a", "Z", "_", "\x00", "\x01", "\x7f", "\x80", "\xff", "é", "\u0660", "\uff11", "\u212a", "\u017f",
	}
	r := rand.New(rand.NewSource(3))
	l := make([]string, many)
	for i := range l {
		var b strings.Builder
		for range r.Intn(7) {
			if r.Intn(8) == 0 {
				b.WriteByte(byte(r.Intn(256)))
			} else {
				b.WriteString(pieces[r.Intn(len(pieces))])
			}
		}
		l[i] = b.String()
	}
	return l
}

// memory tells where a text's bytes lie: from the first up to, but without, the second.
func memory(s string) (uintptr, uintptr) {
	from := uintptr(unsafe.Pointer(unsafe.StringData(s)))
	return from, from + uintptr(len(s))
}

// apart tells that two texts share no memory.
func apart(t *testing.T, what, a, b string) {
	t.Helper()
	af, at := memory(a)
	bf, bt := memory(b)
	if a != "" && b != "" && af < bt && bf < at {
		t.Errorf("%s: %.20q and %.20q share memory", what, a, b)
	}
}
