package numeral

import (
	"strings"

	"mill/api"
)

// head is what a text's head says; all is zero where that is nothing.
type head struct {
	class api.Class
	neg   bool   // a - stands ahead
	whole string // the digits ahead of the point, as they stand
	frac  string // those behind it
	exp   int    // what stands behind the e
	size  int
}

// maxExp is where exponents saturate, on both sides of 0.
const maxExp = 1 << 40

// scan goes through a text's head by the grammar of n or, if general, of g: each label is a state.
func scan(s string, general bool) head {
	var h head
	i, from := 0, 0
blanks:
	switch c := at(s, i); {
	case c == ' ' || c == '\t':
		i++
		goto blanks
	case c == '-':
		h.neg = true
		i++
	case c == '+' && general:
		i++
	}
	if general {
		if class, size := wordAt(s[i:], h.neg); size > 0 {
			return head{class: class, size: i + size}
		}
	}
	from = i
whole:
	if isDigit(at(s, i)) {
		i++
		goto whole
	}
	h.whole = s[from:i]
	if at(s, i) != '.' {
		goto number
	}
	i++
	from = i
fraction:
	if isDigit(at(s, i)) {
		i++
		goto fraction
	}
	h.frac = s[from:i]
number:
	if h.whole == "" && h.frac == "" {
		return head{}
	}
	if general {
		h.exp, i = exponent(s, i)
	}
	h.class, h.size = api.ClassNum, i
	return h
}

// exponent goes through the exponent that stands at from: what it says and where it ends; 0 and from, if there is none.
func exponent(s string, from int) (int, int) {
	exp, end, neg := 0, from, false
	i := from + 1
	if c := at(s, from); c != 'e' && c != 'E' {
		goto done
	}
	switch at(s, i) {
	case '-':
		neg = true
		i++
	case '+':
		i++
	}
digits:
	if c := at(s, i); isDigit(c) {
		exp = min(10*exp+int(c-'0'), maxExp)
		i++
		end = i
		goto digits
	}
	if neg {
		exp = -exp
	}
done:
	return exp, end
}

type word struct {
	text  string
	class api.Class
}

// The longer one of two that begin alike stands first: it is to be found where it fits.
var words = [...]word{{"infinity", api.ClassHigh}, {"inf", api.ClassHigh}, {"nan", api.ClassNaN}}

// wordAt tells the class of a text that begins with a word, and the word's length; 0: there is none.
func wordAt(s string, neg bool) (api.Class, int) {
	for _, w := range words {
		if !begins(s, w.text) {
			continue
		}
		if w.class == api.ClassHigh && neg {
			return api.ClassLow, len(w.text)
		}
		return w.class, len(w.text)
	}
	return api.ClassNone, 0
}

type suffix struct {
	letter byte
	rank   int
}

var suffixes = [...]suffix{
	{'K', 1}, {'k', 1}, {'M', 2}, {'G', 3}, {'T', 4}, {'P', 5}, {'E', 6}, {'Z', 7}, {'Y', 8}, {'R', 9}, {'Q', 10},
}

// suffix tells the rank of the letter that belongs to the number whose text is s; 0: there is none.
func (h head) suffix(s string) int {
	if h.class == api.ClassNone {
		return 0
	}
	for _, x := range suffixes {
		if at(s, h.size) == x.letter {
			return x.rank
		}
	}
	return 0
}

func (h head) decimal() api.Decimal {
	whole, frac := strings.TrimLeft(h.whole, "0"), strings.TrimRight(h.frac, "0")
	// Clones: an answer shares no memory with the text.
	return api.Decimal{Neg: h.neg && !h.zero(), Whole: strings.Clone(whole), Frac: strings.Clone(frac), Size: h.size}
}

// zero tells whether the number is 0, or there is none.
func (h head) zero() bool {
	d, _ := h.number()
	return d.zero()
}

// number gives the number as 0.DIGITS times 10 to the power of an exponent, the digits without a 0 at either end. Of 0, and where there is no number, it gives no digits, and the exponent means nothing.
func (h head) number() (digits, int) {
	d := digits{strings.TrimLeft(h.whole, "0"), strings.TrimRight(h.frac, "0")}
	exp := len(d.whole)
	if d.whole == "" {
		all := len(d.frac)
		d.frac = strings.TrimLeft(d.frac, "0")
		exp = len(d.frac) - all
	}
	if d.frac == "" {
		d.whole = strings.TrimRight(d.whole, "0")
	}
	return d, exp + h.exp
}

// at gives the byte at i, and behind the end 0: no state goes on at that one.
func at(s string, i int) byte {
	if i < len(s) {
		return s[i]
	}
	return 0
}

func isDigit(c byte) bool { return c >= '0' && c <= '9' }
