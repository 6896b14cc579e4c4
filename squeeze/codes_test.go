package squeeze_test

import (
	"math"
	"math/rand"
	"slices"
	"testing"

	"mill/api"
	"mill/squeeze"
)

// codeTexts gives the canonical codes of lengths that make a code, as texts of bits: each is what comes behind the one ahead, by counting on the text.
func codeTexts(lengths []int) []string {
	texts := make([]string, len(lengths))
	last := ""
	for l := 1; l <= 15; l++ {
		for s, length := range lengths {
			if length != l {
				continue
			}
			if last != "" {
				last = counted(last)
			}
			for len(last) < l {
				last += "0"
			}
			texts[s] = last
		}
	}
	return texts
}

// counted gives the text of bits that counts one more.
func counted(text string) string {
	b := []byte(text)
	for i := len(b) - 1; i >= 0; i-- {
		b[i] ^= 1
		if b[i] == '1' {
			break
		}
	}
	return string(b)
}

// randomLengths gives lengths that make a code: the leaves of a tree that grows at random, with symbols without a code in between.
func randomLengths(r *rand.Rand, symbols, most int) []int {
	leaves := []int{1, 1}
	for range r.Intn(symbols - 1) {
		i := r.Intn(len(leaves))
		if leaves[i] < most {
			leaves[i]++
			leaves = append(leaves, leaves[i])
		}
	}
	lengths := make([]int, symbols)
	for i, at := range r.Perm(symbols)[:len(leaves)] {
		lengths[at] = leaves[i]
	}
	return lengths
}

// P6.3: codes as the chapter counts them, of lengths that make a code.
func TestCodes(t *testing.T) {
	r := rand.New(rand.NewSource(3))
	for range 300 {
		lengths := randomLengths(r, 2+r.Intn(60), 15)
		codes, e := squeeze.Codes(lengths)
		if e != api.OK || len(codes) != len(lengths) {
			t.Fatalf("Codes(%v): %v, %d", lengths, codes, e)
		}
		for s, text := range codeTexts(lengths) {
			if binary(int(codes[s]), lengths[s]) != text || codes[s]>>lengths[s] != 0 {
				t.Fatalf("Codes(%v): symbol %d: %b, want %s", lengths, s, codes[s], text)
			}
		}
	}
}

// P6.3: the longest codes, the most symbols, and a code of one symbol.
func TestCodesAtTheLimits(t *testing.T) {
	long := []int{15}
	for l := 15; l > 0; l-- {
		long = append(long, l)
	}
	codes, e := squeeze.Codes(long)
	if e != api.OK || codes[0] != 1<<15-2 || codes[1] != 1<<15-1 || codes[15] != 0 || codes[14] != 2 {
		t.Errorf("Codes(%v): %v, %d", long, codes, e)
	}
	full := slices.Repeat([]int{9}, api.MaxAlphabet)
	codes, e = squeeze.Codes(full)
	if e != api.OK || codes[0] != 0 || codes[511] != 511 || codes[256] != 256 {
		t.Errorf("Codes of 512 symbols: %v, %d", codes, e)
	}
	one := make([]int, api.MaxAlphabet)
	one[511] = 1
	codes, e = squeeze.Codes(one)
	if e != api.OK || !slices.Equal(codes, make([]uint32, api.MaxAlphabet)) {
		t.Errorf("Codes of one symbol: %v, %d", codes, e)
	}
}

// P6.3: lengths that make no code; too many of them are told first.
func TestCodesRefuses(t *testing.T) {
	for _, c := range []struct {
		lengths []int
		e       api.Errno
	}{
		{make([]int, api.MaxAlphabet+1), api.ErrArg}, {slices.Repeat([]int{-1}, api.MaxAlphabet+1), api.ErrArg},
		{nil, api.ErrCodes}, {make([]int, 7), api.ErrCodes}, {make([]int, api.MaxAlphabet), api.ErrCodes}, {[]int{1, 1, 1}, api.ErrCodes}, {[]int{1, 2}, api.ErrCodes}, {[]int{1, 1, 15}, api.ErrCodes}, {[]int{2}, api.ErrCodes}, {[]int{15}, api.ErrCodes}, {[]int{2, 2}, api.ErrCodes},
		{[]int{1, 1, -1}, api.ErrCodes}, {[]int{1, 1, 16}, api.ErrCodes}, {[]int{1, math.MinInt}, api.ErrCodes}, {[]int{1, math.MaxInt}, api.ErrCodes}, {[]int{-1, 1}, api.ErrCodes}, {[]int{1, 16}, api.ErrCodes}, {slices.Repeat([]int{1}, api.MaxAlphabet), api.ErrCodes},
	} {
		if codes, e := squeeze.Codes(c.lengths); codes != nil || e != c.e {
			t.Errorf("Codes(%v): %v, %d, want %d", c.lengths, codes, e, c.e)
		}
	}
}
