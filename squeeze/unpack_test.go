package squeeze_test

import (
	"bytes"
	"math/rand"
	"strings"
	"testing"

	"mill/api"
)

// small are the lengths of a first code with the codes a: 00, b: 01, eight bytes back: 10, 11 to 18 bytes back: 11, and of a second one with distance 1: 0, distance 5 or 6: 1.
var small = map[int]int{97: 2, 98: 2, 261: 2, 264: 2, 272: 1, 276: 1}

// P6.7: literal bytes and repeats of all kinds that the small codes have; a repeat may be longer than its distance.
func TestUnpackRepeats(t *testing.T) {
	head := lengthsText(small, 16)
	for _, c := range []struct{ text, raw string }{
		{"00", "a"}, {"01", "b"}, {"00 01 00", "aba"},
		{"00 10 0", "a" + "aaaaaaaa"},
		{"00 01 10 0", "ab" + "bbbbbbbb"},
		{"00 01 00 01 01 10 1 0", "ababb" + "ababbaba"},
		{"00 01 00 01 01 00 10 1 1", "ababba" + "ababbaab"},
		{"01 11 000 0", "b" + strings.Repeat("b", 11)},
		{"01 11 111 0", "b" + strings.Repeat("b", 18)},
		{"01 11 101 0", "b" + strings.Repeat("b", 16)},
		{"01 11 000 0 00", "b" + strings.Repeat("b", 11) + "a"},
	} {
		gives(t, c.text, packedBlock(len(c.raw), head+c.text), len(c.raw), []byte(c.raw))
	}
}

// P6.7: the runs of lengths may be cut anywhere, and go over from the first code into the second.
func TestUnpackRuns(t *testing.T) {
	over := map[int]int{97: 1, 271: 2, 270: 2, 272: 2, 273: 2, 274: 1}
	for longest := 1; longest <= 16; longest++ {
		gives(t, "cut", packedBlock(1, lengthsText(small, longest)+"01"), 1, []byte("b"))
		gives(t, "over", packedBlock(188, lengthsText(over, longest)+"0 11 000000 10"), 188, bytes.Repeat([]byte("a"), 188))
	}
}

// P6.7: a code of one symbol is the bit 0, and the second code may have no symbol.
func TestUnpackOneSymbol(t *testing.T) {
	one := lengthsText(map[int]int{0: 1}, 16)
	gives(t, "one symbol", packedBlock(9, one+"000000000"), 9, make([]byte, 9))
	refuses(t, "its bit is 1", packedBlock(9, one+"000000001"), 9, 12+len(one)/8+1, api.ErrPacked)
	refuses(t, "its first bit is 1", packedBlock(9, one+"1"), 9, 12+len(one)/8, api.ErrPacked)
	alone := lengthsText(map[int]int{300: 1, 97: 1, 256: 1}, 16)
	refuses(t, "the second code's bit is 1", packedBlock(4, alone+"00 1 1"), 4, 12+len(alone)/8, api.ErrPacked)
	none := lengthsText(map[int]int{97: 1, 256: 1}, 16)
	gives(t, "no second code", packedBlock(3, none+"000"), 3, []byte("aaa"))
	refuses(t, "a repeat without a second code", packedBlock(12, none+"000000000 1 0000000"), 12, 12+len(none)/8+1, api.ErrPacked)
}

// P6.7: of the lengths the place is that of the run at fault.
func TestUnpackRefusesRuns(t *testing.T) {
	whole := filled(lengthsText(small, 16))
	for n := 1; n < len(whole); n++ {
		refuses(t, "the runs end early", block(0xB5, 2, 5, n, whole[:n]), 5, 12+n, api.ErrPacked)
	}
	last := bytes.Clone(whole)
	last[len(last)-1]++
	refuses(t, "303 symbols", block(0xB5, 2, 5, len(last)+9, join(last, make([]byte, 9))), 5, 12+len(last)-1, api.ErrPacked)
	zeros := bytes.Repeat([]byte{0x0F}, 19)
	refuses(t, "304 symbols", block(0xB5, 2, 5, 19, zeros), 5, 12+18, api.ErrPacked)
	zeros[18] = 0x0D
	refuses(t, "302 symbols without a code", block(0xB5, 2, 5, 19, zeros), 5, 12, api.ErrCodes)
	refuses(t, "a last run of 16", block(0xB5, 2, 5, 20, join(bytes.Repeat([]byte{0x0F}, 18), []byte{0x0C, 0xFF})), 5, 12+19, api.ErrPacked)
}

// P6.7: lengths that make no code, of the first or the second code, are told at place 12.
func TestUnpackRefusesCodes(t *testing.T) {
	for _, c := range []struct {
		what string
		of   map[int]int
	}{
		{"too many in the first", map[int]int{1: 1, 2: 1, 3: 1}}, {"too few in the first", map[int]int{1: 1, 2: 2}}, {"one of length 2", map[int]int{1: 2}}, {"one of length 15", map[int]int{271: 15}},
		{"none in the first", map[int]int{272: 1}}, {"none in the first, two in the second", map[int]int{272: 1, 301: 1}},
		{"too many in the second", map[int]int{1: 1, 2: 1, 272: 1, 273: 1, 274: 15}}, {"too few in the second", map[int]int{1: 1, 2: 1, 272: 1, 273: 3}}, {"one of length 3 in the second", map[int]int{1: 1, 2: 1, 301: 3}},
		{"a code over both", map[int]int{271: 1, 272: 1, 273: 1, 274: 1}}, {"a code of both together", map[int]int{270: 2, 271: 2, 272: 1}},
	} {
		refuses(t, c.what, packedBlock(5, lengthsText(c.of, 16)+"00000000"), 5, 12, api.ErrCodes)
		refuses(t, c.what+", and nothing behind", packedBlock(5, lengthsText(c.of, 16)), 5, 12, api.ErrCodes)
	}
	gives(t, "a code at the end of the first", packedBlock(3, lengthsText(map[int]int{1: 1, 271: 1, 272: 1}, 16)+"0 0 0"), 3, []byte{1, 1, 1})
}

// P6.7: the symbol at fault is told by the byte in which its first bit stands.
func TestUnpackRefusesSymbols(t *testing.T) {
	head := lengthsText(small, 16)
	at := 12 + len(head)/8
	for _, c := range []struct {
		what, text string
		raw, place int
	}{
		{"nothing behind the lengths", "", 1, at},
		{"the body ends ahead of a symbol", "00 00 00 00", 5, at + 1},
		{"the body ends ahead of the second symbol's byte", "00 00 00 00 00 00 00 00", 9, at + 2},
		{"the body ends ahead of the bits of the length", "00 01 00 11", 30, at},
		{"the body ends within the bits of the length", "00 01 11 11", 30, at},
		{"the body ends ahead of the distance's symbol", "00 00 00 10", 30, at},
		{"the body ends within the distance's symbol", "00 11 111 0  000 11 111", 40, at + 1},
		{"the body ends ahead of the distance's bits", "00 00 00 00  00 11 000 1", 16, at + 1},
		{"a distance of 1 ahead of all", "10 0", 8, at},
		{"a distance of 5 behind 4", "00 01 01 00 10 1 0 000", 12, at + 1},
		{"a distance of 6 behind 5", "00 01 01 00  00 10 1 1 00", 13, at + 1},
		{"a repeat over the end", "00 10 0", 8, at},
		{"a repeat over the end by its bits", "00 00 00 00  11 001 0", 15, at + 1},
		{"a repeat far over the end", "00 11 111 0", 2, at},
	} {
		refuses(t, c.what, packedBlock(c.raw, head+c.text), c.raw, c.place, api.ErrPacked)
	}
	gives(t, "a distance of 5 behind 5", packedBlock(13, head+"00 01 01 00 00 10 1 0"), 13, []byte("abbaaabbaaabb"))
	gives(t, "a repeat up to the end", packedBlock(9, head+"00 10 0"), 9, []byte("aaaaaaaaa"))
}

// P6.7: a symbol of 15 bits that the body's end cuts off is told where it begins.
func TestUnpackRefusesLongSymbols(t *testing.T) {
	of := map[int]int{}
	for l := 1; l <= 15; l++ {
		of[l] = l
	}
	of[16] = 15
	head := lengthsText(of, 16)
	at := 12 + len(head)/8
	ones := strings.Repeat("1", 40)
	gives(t, "whole", packedBlock(2, head+"0"+ones[:15]), 2, []byte{1, 16})
	gives(t, "behind seven bits", packedBlock(8, head+"0000000"+ones[:15]), 8, []byte{1, 1, 1, 1, 1, 1, 1, 16})
	gives(t, "the last but one", packedBlock(3, head+"00"+ones[:14]+"0"), 3, []byte{1, 1, 15})
	refuses(t, "cut off", packedBlock(3, head+"00"+ones[:14]), 3, at, api.ErrPacked)
	refuses(t, "cut off, in the second byte", packedBlock(10, head+"000000000"+ones[:7]), 10, at+1, api.ErrPacked)
	refuses(t, "cut off ahead of its last bit", packedBlock(11, head+"0000000000"+ones[:14]), 11, at+1, api.ErrPacked)
}

// P6.7: what is left behind the last symbol.
func TestUnpackRefusesRest(t *testing.T) {
	head := lengthsText(small, 16)
	at := 12 + len(head)/8
	for bits := 1; bits <= 8; bits++ {
		symbols := strings.Repeat("00", bits)
		text := strings.ReplaceAll(symbols, " ", "")
		gives(t, "bits 0 are left", packedBlock(bits, head+text), bits, bytes.Repeat([]byte("a"), bits))
		refuses(t, "a byte more", packedBlock(bits, head+text+"00000000"), bits, at+len(text)/8, api.ErrPacked)
		refuses(t, "many bytes more", packedBlock(bits, head+text+strings.Repeat("0", 80)), bits, at+len(text)/8, api.ErrPacked)
		for one := len(text); one%8 != 0; one++ {
			refuses(t, "a bit is 1", packedBlock(bits, head+text+strings.Repeat("0", one-len(text))+"1"), bits, at+len(text)/8, api.ErrPacked)
		}
	}
	refuses(t, "eight bits over two bytes", packedBlock(1, head+"00 000000 00"), 1, at, api.ErrPacked)
	refuses(t, "fewer bytes than symbols", packedBlock(2, head+"00 00 01"), 2, at, api.ErrPacked)
}

// P6.7: ahead of the body the errors come in the chapter's order.
func TestUnpackRefusesFrames(t *testing.T) {
	const raw = 8
	for _, b := range [][]byte{stored(t, []byte("abcdefgh")), packedBlock(raw, lengthsText(small, 16)+"0000000000000000")} {
		body := len(b) - 16
		refuses(t, "N above most", b, 7, 2, api.ErrMost)
		refuses(t, "N above most, and cut", b[:12], 7, 2, api.ErrMost)
		refuses(t, "N above most, and a tail", append(bytes.Clone(b), 1), -9, 2, api.ErrMost)
		for n := 12; n < len(b); n++ {
			refuses(t, "cut", b[:n], raw, n, api.ErrCut)
		}
		refuses(t, "a tail", append(bytes.Clone(b), 0), raw, len(b), api.ErrTail)
		spoilt := bytes.Clone(b)
		spoilt[12] ^= 0xFF
		refuses(t, "the body's sum", spoilt, raw, 12+body, api.ErrSum)
		refuses(t, "the body's sum, and a tail", append(bytes.Clone(spoilt), 7, 7), raw, len(b), api.ErrTail)
		refuses(t, "the body's sum, and cut", spoilt[:len(b)-1], raw, len(b)-1, api.ErrCut)
		spoilt = bytes.Clone(b)
		spoilt[len(b)-1] ^= 1
		refuses(t, "the sum itself", spoilt, raw, 12+body, api.ErrSum)
		spoilt = bytes.Clone(b)
		spoilt[1] = 9
		refuses(t, "Look's error first", spoilt, -1, 1, api.ErrPacked)
	}
	refuses(t, "nothing", nil, 0, 0, api.ErrCut)
}

// P6.7: each symbol for a repeat's length with each one for its distance, the numbers of the bits that follow the least, the greatest and others: what the chapter's table says. What is made so far is just as long as the distance.
func TestUnpackEachRepeat(t *testing.T) {
	r := rand.New(rand.NewSource(8))
	for k, length := range modelLengths {
		for d, distance := range modelDistances {
			// The code of length 1 is 0, those of length 2 are 10 and 11.
			head := lengthsText(map[int]int{0: 2, 1: 2, 256 + k: 1, 272 + d: 1}, 16)
			for _, from := range []int{0, 1<<20 - 1, r.Intn(1 << 20)} {
				more, far := from%(1<<length.bits), from%(1<<distance.bits)
				raw, text := literals(r, distance.base+far)
				text = head + text + "0" + binary(more, length.bits) + "0" + binary(far, distance.bits)
				for i := range length.base + more {
					raw = append(raw, raw[i])
				}
				gives(t, "a repeat", packedBlock(len(raw), text), len(raw), raw)
			}
		}
	}
}

// literals gives n bytes 0 and 1, and them as codes 10 and 11.
func literals(r *rand.Rand, n int) ([]byte, string) {
	raw := make([]byte, n)
	var text strings.Builder
	for i := range raw {
		raw[i] = byte(r.Intn(2))
		text.WriteString([]string{"10", "11"}[raw[i]])
	}
	return raw, text.String()
}
