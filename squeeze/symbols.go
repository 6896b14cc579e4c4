package squeeze

import "mill/api"

// The symbols of both codes, those of the second one numbered behind those of the first.
const (
	backs      = 256        // the first symbol for a repeat
	firstSize  = backs + 16 // symbols of the first code
	secondSize = 30         // symbols of the second one
	bothSize   = firstSize + secondSize
)

// The runs in which the lengths of the codes are written.
const (
	runBits = 4            // bits of each of a run's two numbers
	mostRun = 1 << runBits // symbols of one run
)

// lengthBases are the least lengths of repeats that the symbols for them stand for.
var lengthBases = [firstSize - backs]int{3, 4, 5, 6, 7, 8, 9, 10, 11, 19, 27, 43, 59, 91, 123, 187}

// lengthBase gives the least length that the symbol number k for repeats stands for, and how many bits follow it.
func lengthBase(k int) (base, bits int) {
	if k >= 8 {
		bits = (k-8)/2 + 3
	}
	return lengthBases[k], bits
}

// distanceBase gives the least distance that the symbol number d of the second code stands for, and how many bits follow it.
func distanceBase(d int) (base, bits int) {
	if d < 4 {
		return d + 1, 0
	}
	bits = (d - 2) / 2
	return (2+d%2)<<bits + 1, bits
}

// suffixed is a symbol with the bits that follow it.
type suffixed struct {
	symbol int
	bits   int
	rest   int // the number that these bits say
}

// symbolFor gives, of so many symbols with rising bases, the last one whose base is not above the value; no value is below the first base.
func symbolFor(value, symbols int, baseOf func(symbol int) (base, bits int)) suffixed {
	symbol := symbols - 1
	base, bits := baseOf(symbol)
	for base > value {
		symbol--
		base, bits = baseOf(symbol)
	}
	return suffixed{symbol, bits, value - base}
}

// bothLengths holds the lengths of both codes.
type bothLengths [bothSize]int

// bestLengths gives the lengths for symbols of both codes that come so often: no more often than a block has bytes.
func bestLengths(counts [bothSize]int) bothLengths {
	var both bothLengths
	first, _ := Lengths(counts[:firstSize], api.MaxBits)
	second, _ := Lengths(counts[firstSize:], api.MaxBits)
	copy(both[:firstSize], first)
	copy(both[firstSize:], second)
	return both
}

// codes gives the codes of these lengths; symbols without a length have none, which is no fault in the second code.
func (both *bothLengths) codes() [bothSize]uint32 {
	var codes [bothSize]uint32
	first, _ := Codes(both[:firstSize])
	second, _ := Codes(both[firstSize:])
	copy(codes[:firstSize], first)
	copy(codes[firstSize:], second)
	return codes
}

// run is a row of symbols whose codes have one length.
type run struct {
	length int
	many   int
}

// runs gives the fewest runs that these lengths can be written in.
func (both *bothLengths) runs() []run {
	var runs []run
	for i, l := range both {
		last := len(runs) - 1
		if i == 0 || runs[last].length != l || runs[last].many == mostRun {
			runs = append(runs, run{l, 1})
		} else {
			runs[last].many++
		}
	}
	return runs
}
