package numeral

import "cmp"

// digits is a list of digits in two pieces: as they stand in a text, so that none is copied to be compared.
type digits struct {
	whole string
	frac  string
}

func (d digits) zero() bool { return d.count() == 0 }

func (d digits) count() int { return len(d.whole) + len(d.frac) }

func (d digits) at(i int) byte {
	if i < len(d.whole) {
		return d.whole[i]
	}
	return d.frac[i-len(d.whole)]
}

// text gives the digits in one piece, which is new memory.
func (d digits) text() string { return string(d.appendTo(nil)) }

func (d digits) appendTo(b []byte) []byte {
	b = append(b, d.whole...)
	return append(b, d.frac...)
}

// compare compares 0.DIGITS of two lists that end in no 0.
func (d digits) compare(e digits) int {
	for i := range min(d.count(), e.count()) {
		if c := cmp.Compare(d.at(i), e.at(i)); c != 0 {
			return c
		}
	}
	return cmp.Compare(d.count(), e.count())
}
