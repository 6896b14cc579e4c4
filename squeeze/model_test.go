package squeeze_test

import (
	"bytes"
	"hash/crc32"
	"math/rand"
	"slices"
	"strings"
	"testing"

	"mill/api"
	"mill/squeeze"
)

// A second model of Unpack, by texts of bits and maps of codes.

type based struct{ base, bits int }

var (
	modelLengths = []based{
		{3, 0}, {4, 0}, {5, 0}, {6, 0}, {7, 0}, {8, 0}, {9, 0}, {10, 0}, {11, 3}, {19, 3}, {27, 4}, {43, 4}, {59, 5}, {91, 5}, {123, 6}, {187, 6},
	}
	modelDistances = []based{
		{1, 0}, {2, 0}, {3, 0}, {4, 0}, {5, 1}, {7, 1}, {9, 2}, {13, 2}, {17, 3}, {25, 3}, {33, 4}, {49, 4}, {65, 5}, {97, 5}, {129, 6}, {193, 6}, {257, 7}, {385, 7}, {513, 8}, {769, 8}, {1025, 9}, {1537, 9}, {2049, 10}, {3073, 10}, {4097, 11}, {6145, 11}, {8193, 12}, {12289, 12}, {16385, 13}, {24577, 13},
	}
)

type answer struct {
	raw   string
	place int
	e     api.Errno
}

func no(place int, e api.Errno) answer { return answer{"", place, e} }

// model says what Unpack answers.
func model(b []byte, most int) answer {
	if len(b) < 12 {
		return no(len(b), api.ErrCut)
	}
	three := func(at int) int { return int(b[at])<<16 + int(b[at+1])<<8 + int(b[at+2]) }
	raw, length := three(2), three(5)
	end := 12 + length
	switch {
	case b[0] != 181:
		return no(0, api.ErrPacked)
	case b[1] != 1 && b[1] != 2:
		return no(1, api.ErrPacked)
	case !bytes.Equal(b[8:12], big(crc32.ChecksumIEEE(b[:8]), 4)):
		return no(8, api.ErrSum)
	case b[1] == 2 && raw == 0:
		return no(2, api.ErrPacked)
	case b[1] == 1 && raw != length || b[1] == 2 && length == 0:
		return no(5, api.ErrPacked)
	case raw > most:
		return no(2, api.ErrMost)
	case len(b) < end+4:
		return no(len(b), api.ErrCut)
	case len(b) > end+4:
		return no(end+4, api.ErrTail)
	case !bytes.Equal(b[end:], big(crc32.ChecksumIEEE(b[12:end]), 4)):
		return no(end, api.ErrSum)
	case b[1] == 1:
		return answer{string(b[12:end]), 0, api.OK}
	}
	return modelBody(bitText(b[12:end]), raw)
}

// modelCodes gives the symbols by the texts of their codes; ok, if the lengths make a code.
func modelCodes(lengths []int) (map[string]int, bool) {
	symbols := map[string]int{}
	if !makeCode(lengths) {
		return symbols, false
	}
	for s, text := range codeTexts(lengths) {
		if text != "" {
			symbols[text] = s
		}
	}
	return symbols, true
}

// cutNumber takes a number of so many bits off a text; ok, if it has them.
func cutNumber(text *string, bits int) (n int, ok bool) {
	if len(*text) < bits {
		return 0, false
	}
	for _, c := range (*text)[:bits] {
		n = 2*n + int(c-'0')
	}
	*text = (*text)[bits:]
	return n, true
}

// cutSymbol takes a symbol off a text; ok, if there is one.
func cutSymbol(text *string, symbols map[string]int) (int, bool) {
	for n := 1; n <= min(15, len(*text)); n++ {
		if s, ok := symbols[(*text)[:n]]; ok {
			*text = (*text)[n:]
			return s, true
		}
	}
	return 0, false
}

// cutLengths takes the runs of lengths off a text; ok, if they come to 302 symbols; else the text is left as it was ahead of the run at fault.
func cutLengths(text *string) (lengths []int, ok bool) {
	for len(lengths) < 302 {
		rest := *text
		length, ok := cutNumber(&rest, 4)
		many, also := cutNumber(&rest, 4)
		if !ok || !also || len(lengths)+many+1 > 302 {
			return nil, false
		}
		for range many + 1 {
			lengths = append(lengths, length)
		}
		*text = rest
	}
	return lengths, true
}

// cutPiece takes a symbol of the first code and what belongs to it off a text, and gives raw with what it makes.
func cutPiece(text *string, first, second map[string]int, raw []byte, size int) ([]byte, bool) {
	s, ok := cutSymbol(text, first)
	if !ok || s < 256 {
		return append(raw, byte(s)), ok
	}
	more, ok := cutNumber(text, modelLengths[s-256].bits)
	if !ok {
		return nil, false
	}
	length := modelLengths[s-256].base + more
	s, ok = cutSymbol(text, second)
	if !ok {
		return nil, false
	}
	more, ok = cutNumber(text, modelDistances[s].bits)
	from := len(raw) - modelDistances[s].base - more
	if !ok || from < 0 || len(raw)+length > size {
		return nil, false
	}
	for i := range length {
		raw = append(raw, raw[from+i])
	}
	return raw, true
}

// modelBody says what Unpack answers of a body of mode 2.
func modelBody(text string, size int) answer {
	all := len(text)
	place := func() int { return 12 + (all-len(text))/8 }
	lengths, ok := cutLengths(&text)
	if !ok {
		return no(place(), api.ErrPacked)
	}
	first, ok := modelCodes(lengths[:272])
	second, also := modelCodes(lengths[272:])
	if !ok || !also && slices.Max(lengths[272:]) > 0 {
		return no(12, api.ErrCodes)
	}
	var raw []byte
	for len(raw) < size {
		here := place()
		raw, ok = cutPiece(&text, first, second, raw, size)
		if !ok {
			return no(here, api.ErrPacked)
		}
	}
	if len(text) >= 8 || strings.Contains(text, "1") {
		return no(place(), api.ErrPacked)
	}
	return answer{string(raw), 0, api.OK}
}

// asModel tells that Unpack answers what the model says, and gives the model's answer.
func asModel(t *testing.T, b []byte, most int) answer {
	t.Helper()
	raw, place, e := squeeze.Unpack(b, most)
	wanted := model(b, most)
	if got := (answer{string(raw), place, e}); got != wanted {
		t.Errorf("Unpack(%x, %d): %d bytes, place %d, errno %d; the model: %d bytes, place %d, errno %d", b, most, len(got.raw), got.place, got.e, len(wanted.raw), wanted.place, wanted.e)
	}
	return wanted
}

// randomBody gives the bits of a body whose codes are right, with any bits behind them.
func randomBody(r *rand.Rand) string {
	of := map[int]int{}
	if r.Intn(2) == 0 {
		for s, l := range randomLengths(r, 272, 15) {
			of[s] = l
		}
	} else { // few symbols, so that more of the bits fit
		of = map[int]int{r.Intn(128): 2, 128 + r.Intn(128): 2, 256 + r.Intn(8): 2, 264 + r.Intn(8): 2}
	}
	switch r.Intn(5) {
	case 0: // no second code
	case 1:
		of[272+r.Intn(30)] = 1
	case 2:
		of[272], of[273+r.Intn(8)] = 1, 1
	default:
		for s, l := range randomLengths(r, 30, 1+r.Intn(15)) {
			of[272+s] = l
		}
	}
	text := lengthsText(of, 1+r.Intn(16))
	for range r.Intn(100) {
		text += binary(r.Intn(2), 1)
	}
	return text
}

// P6.7: bodies with right codes and any bits behind them, for any number of raw bytes: as the model says.
func TestUnpackAnyBits(t *testing.T) {
	r := rand.New(rand.NewSource(9))
	seen := map[api.Errno]int{}
	for range 300 {
		text := randomBody(r)
		for raw := 1; raw <= 40; raw++ {
			seen[asModel(t, packedBlock(raw, text), 40).e]++
		}
	}
	// This test lives on bodies of both kinds.
	if seen[api.OK] < 50 || seen[api.ErrPacked] < 1000 {
		t.Errorf("the bodies are all of one kind: %v", seen)
	}
}

// P6.7: packed blocks whose body has bits turned, cut off or laid behind it, or that say another number of raw bytes, with the sums right again: as the model says.
func TestUnpackSpoiltBodies(t *testing.T) {
	r := rand.New(rand.NewSource(10))
	seen := map[api.Errno]int{}
	for _, n := range blocks() {
		b := packed(t, n.b[:min(len(n.b), 1200)])
		if b[1] != 2 {
			continue
		}
		want(t, n.name, asModel(t, b, 1200), answer{string(n.b[:min(len(n.b), 1200)]), 0, api.OK})
		for range 400 {
			body := bytes.Clone(b[12 : len(b)-4])
			raw := min(len(n.b), 1200)
			switch r.Intn(5) {
			case 0:
				body[r.Intn(len(body))] ^= 1 << r.Intn(8)
			case 1:
				body[r.Intn(min(len(body), 60))] ^= byte(1 + r.Intn(255))
			case 2:
				body = body[:1+r.Intn(len(body))]
			case 3:
				body = append(body, byte(r.Intn(2)*r.Intn(256)))
			case 4:
				raw += r.Intn(5) - 2
			}
			seen[asModel(t, block(0xB5, 2, raw, len(body), body), 1200).e]++
		}
	}
	for _, e := range []api.Errno{api.OK, api.ErrPacked, api.ErrCodes, api.ErrMost} {
		if seen[e] == 0 {
			t.Errorf("no block was spoilt so that %d is the answer: %v", e, seen)
		}
	}
}

// P6.7: blocks with any byte changed and the sums left as they were, and with any length: as the model says.
func TestUnpackSpoiltBlocks(t *testing.T) {
	r := rand.New(rand.NewSource(11))
	for _, b := range [][]byte{stored(t, nil), stored(t, []byte("abc")), packed(t, bytes.Repeat([]byte("ab"), 100))} {
		for range 2000 {
			c := bytes.Clone(b)
			c[r.Intn(len(c))] ^= byte(1 << r.Intn(8))
			if r.Intn(3) == 0 {
				c = join(withSum(c[:8]), c[12:])
			}
			if r.Intn(3) == 0 {
				c = c[:r.Intn(len(c)+1)]
			}
			asModel(t, c, r.Intn(300)-10)
		}
	}
}
