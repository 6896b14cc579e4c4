package squeeze_test

import (
	"bytes"
	"slices"
	"strings"
	"testing"

	"mill/api"
	"mill/squeeze"
)

// The chapter's examples, by their numbers.

func TestExample1(t *testing.T) {
	b, e := squeeze.Store(nil)
	head := withSum([]byte{0xB5, 1, 0, 0, 0, 0, 0, 0})
	if !bytes.Equal(b, append(head, 0, 0, 0, 0)) || len(b) != 16 || e != api.OK {
		t.Errorf("Store of nothing: %x, %d", b, e)
	}
	gives(t, "most 0", b, 0, nil)
	refuses(t, "most -1", b, -1, 2, api.ErrMost)
}

func TestExample2(t *testing.T) {
	if n := len(packed(t, bytes.Repeat([]byte("a"), 1000))); n > 360+2+33 {
		t.Errorf("Pack of a thousand a: %d bytes", n)
	}
}

func TestExample3(t *testing.T) {
	counts := []int{5, 1, 1, 3}
	l, e := squeeze.Lengths(counts, 15)
	want(t, "errno", e, api.OK)
	want(t, "the sum", costOf(counts, l), 17)
	l, e = squeeze.Lengths(counts, 2)
	if !slices.Equal(l, []int{2, 2, 2, 2}) || e != api.OK {
		t.Errorf("most 2: %v, %d", l, e)
	}
	l, e = squeeze.Lengths(counts, 1)
	if l != nil || e != api.ErrArg {
		t.Errorf("most 1: %v, %d", l, e)
	}
}

func TestExample4(t *testing.T) {
	for _, c := range []struct {
		counts []int
		most   int
		want   []int
	}{{[]int{0, 7, 0}, 3, []int{0, 1, 0}}, {[]int{0, 0}, 3, []int{0, 0}}, {[]int{4, 4}, 1, []int{1, 1}}} {
		if l, e := squeeze.Lengths(c.counts, c.most); !slices.Equal(l, c.want) || e != api.OK {
			t.Errorf("Lengths(%v, %d): %v, %d", c.counts, c.most, l, e)
		}
	}
}

func TestExample5(t *testing.T) {
	for _, c := range []struct {
		lengths []int
		want    []uint32
		e       api.Errno
	}{
		{[]int{1, 3, 3, 2}, []uint32{0, 0b110, 0b111, 0b10}, api.OK},
		{[]int{2, 2, 2}, nil, api.ErrCodes},
		{[]int{0, 1}, []uint32{0, 0}, api.OK},
		{[]int{0, 2}, nil, api.ErrCodes},
		{[]int{}, nil, api.ErrCodes},
	} {
		if l, e := squeeze.Codes(c.lengths); !slices.Equal(l, c.want) || e != c.e {
			t.Errorf("Codes(%v): %v, %d", c.lengths, l, e)
		}
	}
}

func TestExample6(t *testing.T) {
	b := stored(t, nil)
	p, place, e := squeeze.Look(b[:11])
	if p != (api.Packed{}) || place != 11 || e != api.ErrCut {
		t.Errorf("Look of 11 bytes: %+v, %d, %d", p, place, e)
	}
	refuses(t, "a byte more", append(b, 0), 0, 16, api.ErrTail)
}

func TestExample7(t *testing.T) {
	runs := strings.Repeat("\x0F", 6) + "\x00\x10" + strings.Repeat("\x0F", 9) + "\x0D\x10\x0E\x10\x0F\x0C"
	body := []byte(runs + "\x40")
	b := block(0xB5, 2, 4, 24, body)
	gives(t, "aaaa", b, 4, []byte("aaaa"))
	p, place, e := squeeze.Look(b)
	if p != (api.Packed{Mode: 2, Raw: 4, Body: 24, Size: 40}) || place != 0 || e != api.OK {
		t.Errorf("Look: %+v, %d, %d", p, place, e)
	}
	if text := lengthsText(map[int]int{97: 1, 256: 1, 272: 1}, 16); string(filled(text)) != runs {
		t.Errorf("the lengths' runs: %x", filled(text))
	}
}
