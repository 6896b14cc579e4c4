package squeeze

import "mill/api"

// perLength holds a number for each length of codes; those of length 0 are symbols without a code.
type perLength [api.MaxBits + 1]int

// Codes gives the codes of these lengths.
func Codes(lengths []int) ([]uint32, api.Errno) {
	if len(lengths) > api.MaxAlphabet {
		return nil, api.ErrArg
	}
	for _, l := range lengths {
		if l < 0 || l > api.MaxBits {
			return nil, api.ErrCodes
		}
	}
	many := countLengths(lengths)
	if !many.code() {
		return nil, api.ErrCodes
	}
	next := many.first()
	codes := make([]uint32, len(lengths))
	for s, l := range lengths {
		if l > 0 {
			codes[s] = uint32(next[l])
			next[l]++
		}
	}
	return codes, api.OK
}

// countLengths tells how many symbols have each length; each of them is from 0 to MaxBits.
func countLengths(lengths []int) perLength {
	var many perLength
	for _, l := range lengths {
		many[l]++
	}
	return many
}

// symbols tells how many of them have a code.
func (many perLength) symbols() int {
	sum := 0
	for _, n := range many[1:] {
		sum += n
	}
	return sum
}

// code tells whether lengths of which there are so many make a code.
func (many perLength) code() bool {
	room := 0
	for l, n := range many[1:] {
		room += n << (api.MaxBits - 1 - l)
	}
	return room == 1<<api.MaxBits || many[1] == 1 && many.symbols() == 1
}

// first gives the first code of each length.
func (many perLength) first() perLength {
	var first perLength
	code := 0
	for l := 1; l < len(many); l++ {
		code *= 2
		first[l] = code
		code += many[l]
	}
	return first
}
