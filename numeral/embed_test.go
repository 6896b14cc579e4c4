package numeral_test

import (
	"slices"
	"strings"
	"sync"
	"testing"

	"mill/api"
	"mill/numeral"
)

// P3.7: the bytes, kind by kind.
func TestEmbed(t *testing.T) {
	for _, c := range []struct {
		kind   api.Mods
		s      string
		wanted []byte
	}{
		{api.ModN, "", []byte{80}}, {api.ModN, "-0.0", []byte{80}}, {api.ModN, "inf", []byte{80}}, {api.ModH, "x", []byte{80}}, {api.ModH, "0Q", []byte{80}},
		{api.ModG, "", []byte{16}}, {api.ModG, "-nan", []byte{32}}, {api.ModG, "-inf", []byte{48}}, {api.ModG, "-0e7", []byte{80}}, {api.ModG, "infinity", []byte{112}},
		{api.ModN, "-5", []byte{64, 191, 255, 255, 255, 255, 255, 255, 254, 202, 255}},
		{api.ModN, "5e2", []byte{96, 64, 0, 0, 0, 0, 0, 0, 1, '5', 0}},
		{api.ModG, "5e2", []byte{96, 64, 0, 0, 0, 0, 0, 0, 3, '5', 0}},
		{api.ModG, "-12e9999999999999999", []byte{64, 191, 255, 254, 255, 255, 255, 255, 253, 206, 205, 255}},
		{api.ModG, "1.2e-9999999999999999", []byte{96, 63, 255, 255, 0, 0, 0, 0, 1, '1', '2', 0}},
		{api.ModN, " 0012.50", []byte{96, 64, 0, 0, 0, 0, 0, 0, 2, '1', '2', '5', 0}},
		{api.ModN, ".005", []byte{96, 63, 255, 255, 255, 255, 255, 255, 254, '5', 0}},
		{api.ModH, "1200", []byte{96, 0, 64, 0, 0, 0, 0, 0, 0, 4, '1', '2', 0}},
		{api.ModH, "1200k", []byte{96, 1, 64, 0, 0, 0, 0, 0, 0, 4, '1', '2', 0}},
		{api.ModH, "-3Q", []byte{64, 245, 191, 255, 255, 255, 255, 255, 255, 254, 204, 255}},
		{api.ModM, "", []byte{0}}, {api.ModM, " december", []byte{12}},
		{api.ModV, "~aA", []byte{1, 29, 3, 2, 0, 2, 0}},
		{api.ModV, "0", []byte{2, 1, 0, 0, 0, 0, 0, 0, 0, 0, 2, 0}},
		{api.ModV, "a007-", []byte{29, 2, 1, 0, 0, 0, 0, 0, 0, 0, 1, '7', 100, 2, 0, 2, 0}},
		{api.ModV, "\x00\xff12", []byte{55, 247, 2, 1, 0, 0, 0, 0, 0, 0, 0, 2, '1', '2', 2, 0}},
		{0, "", []byte{0}}, {api.ModN | api.ModR, "\x01\x02\xff5", []byte{1, 2, 2, 255, '5', 0}},
	} {
		if got := numeral.Embed(c.kind, c.s); got != string(c.wanted) {
			t.Errorf("Embed(%d, %q): %v, want %v", c.kind, c.s, []byte(got), c.wanted)
		}
	}
}

// P3.7: bytewise order is Compare's, and none is a proper beginning of another one: for all pairs of many texts.
func TestEmbedKeepsTheOrder(t *testing.T) {
	l := append(texts("-1.0e", 3), texts("~a0\x00\x01", 3)...)
	l = append(l, strange(400)...)
	l = append(l, "1e9999999999999999", "1e9999999999999998", "-1e9999999999999999", "1e-9999999999999999", "-1e-9999999999999999", "12K", "12k", "1200K", "-12Q", "inf", "-inf", "nan", "jan", "DEC")
	for _, kind := range kinds {
		embedded := make([]string, len(l))
		for i, s := range l {
			embedded[i] = numeral.Embed(kind, s)
		}
		for i, a := range l {
			for k, b := range l {
				x, y := embedded[i], embedded[k]
				if got, wanted := strings.Compare(x, y), numeral.Compare(kind, a, b); got != wanted {
					t.Fatalf("kind %d: %q, %q: %d, want %d", kind, a, b, got, wanted)
				}
				if len(x) < len(y) && strings.HasPrefix(y, x) {
					t.Fatalf("kind %d: %q begins as %q", kind, b, a)
				}
			}
		}
	}
}

// P3.8: long texts of all kinds end soon, and are as exact as short ones.
func TestLongTexts(t *testing.T) {
	const n = 1 << 17
	zeros, nines := strings.Repeat("0", n), strings.Repeat("9", n)
	d := numeral.Decimal(strings.Repeat(" ", n) + "-" + zeros + nines + "." + nines + zeros)
	if d.Whole != nines || d.Frac != nines || !d.Neg || d.Size != 5*n+2 {
		t.Errorf("Decimal: %d, %d, %v, %d", len(d.Whole), len(d.Frac), d.Neg, d.Size)
	}
	g := numeral.General("." + zeros + "1" + zeros + "e" + zeros + "3")
	want(t, "General", g, api.General{Class: api.ClassNum, Digits: "1", Exp: 3 - n, Size: 3*n + 4})
	for _, kind := range []api.Mods{api.ModN, api.ModG, api.ModH} {
		rising(t, kind, "-"+nines+"1", "-"+nines+"0", "-"+nines, "-."+zeros+"2", "-."+zeros+"1", zeros+"."+zeros, "."+zeros+"1|"+"."+zeros+"10", "."+zeros+"2", nines, nines+"0", nines+"0.1|"+zeros+nines+"0.10", nines+"1")
	}
	rising(t, api.ModV, strings.Repeat("a1", n)+"~", strings.Repeat("a1", n), strings.Repeat("a1", n)+"a", "a"+nines+"b1", "a"+nines+"b2|a"+zeros+nines+"b02", "a"+nines+"0")
	for _, s := range []string{zeros, nines, strings.Repeat("\x00", n), strings.Repeat("\xff", n), strings.Repeat("-", n), strings.Repeat("1.", n), strings.Repeat("1e", n), strings.Repeat("a0", n), strings.Repeat("\t", n)} {
		for _, kind := range kinds {
			want(t, "Compare", numeral.Compare(kind, s, s), 0)
			if numeral.Embed(kind, s) == "" {
				t.Errorf("Embed(%d): nothing", kind)
			}
		}
	}
}

// P3.8: what is answered shares no memory with the text, nor with another answer.
func TestNewMemory(t *testing.T) {
	for _, s := range []string{"5", "12", "12.5", ".5", "0012.500", "-12e7", "12.25e-3K"} {
		d, e := numeral.Decimal(s), numeral.Decimal(s)
		h, _ := numeral.Human(s)
		g, f := numeral.General(s), numeral.General(s)
		l := []string{s, d.Whole, d.Frac, e.Whole, e.Frac, h.Whole, h.Frac}
		if len(g.Digits) > 1 { // the library may keep texts of one byte for all
			l = append(l, g.Digits, f.Digits)
		}
		for _, kind := range kinds {
			if kind != api.ModM {
				l = append(l, numeral.Embed(kind, s), numeral.Embed(kind, s))
			}
		}
		for i, a := range l {
			for _, b := range l[i+1:] {
				apart(t, s, a, b)
			}
		}
	}
}

// P3.8: nothing is kept: each answer is the same whatever was asked before, and whoever asks beside.
func TestNothingIsKept(t *testing.T) {
	l := strange(500)
	answers := func(back bool) (out []string) {
		order := slices.Clone(l)
		if back {
			slices.Reverse(order)
		}
		for _, s := range order {
			for _, kind := range kinds {
				out = append(out, numeral.Embed(kind, s))
			}
			d, g := numeral.Decimal(s), numeral.General(s)
			out = append(out, d.Whole, d.Frac, g.Digits)
		}
		return out
	}
	wanted := answers(false)
	got := make([][]string, 8)
	var wait sync.WaitGroup
	for i := range got {
		wait.Go(func() { got[i] = answers(i%2 == 1) })
	}
	wait.Wait()
	per := len(wanted) / len(l)
	for i := range got {
		for k := range wanted {
			at := k
			if i%2 == 1 {
				at = (len(l)-1-k/per)*per + k%per
			}
			if got[i][at] != wanted[k] {
				t.Fatalf("asker %d, answer %d: %q, want %q", i, at, got[i][at], wanted[k])
			}
		}
	}
}
