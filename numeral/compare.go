package numeral

import (
	"cmp"
	"strings"

	"mill/api"
)

// Compare compares two texts as one of ModN, ModG, ModH, ModM, ModV says; else bytewise.
func Compare(kind api.Mods, a string, b string) int {
	switch kind {
	case api.ModN, api.ModG, api.ModH:
		return valueOf(kind, a).compare(valueOf(kind, b))
	case api.ModM:
		return cmp.Compare(Month(a), Month(b))
	case api.ModV:
		return compareVersions(a, b)
	}
	return strings.Compare(a, b)
}

// The classes of values, in their order: these are also the bytes that Embed gives for them.
const (
	classNone byte = 16 * (1 + iota)
	classNaN
	classLow
	classBelow // a number below 0
	classZero
	classAbove // a number above 0
	classHigh
)

// value is what a text counts for under ModN, ModG or ModH.
type value struct {
	class  byte
	rank   int // this and what follows: of numbers below and above 0 alone
	exp    int
	digits digits
}

func valueOf(kind api.Mods, s string) value {
	h := scan(s, kind == api.ModG)
	switch h.class {
	case api.ClassNaN:
		return value{class: classNaN}
	case api.ClassLow:
		return value{class: classLow}
	case api.ClassHigh:
		return value{class: classHigh}
	case api.ClassNone:
		if kind == api.ModG {
			return value{class: classNone}
		}
	}
	v := value{class: classAbove}
	v.digits, v.exp = h.number()
	if v.digits.zero() {
		return value{class: classZero}
	}
	if h.neg {
		v.class = classBelow
	}
	if kind == api.ModH {
		v.rank = h.suffix(s)
	}
	return v
}

func (v value) compare(w value) int {
	switch {
	case v.class != w.class:
		return cmp.Compare(v.class, w.class)
	case v.class == classBelow:
		return w.compareSizes(v)
	}
	return v.compareSizes(w)
}

// compareSizes compares as if both were above 0.
func (v value) compareSizes(w value) int {
	switch {
	case v.rank != w.rank:
		return cmp.Compare(v.rank, w.rank)
	case v.exp != w.exp:
		return cmp.Compare(v.exp, w.exp)
	}
	return v.digits.compare(w.digits)
}
