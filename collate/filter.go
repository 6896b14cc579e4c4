package collate

import (
	"cmp"

	"mill/api"
)

// filter is what of a text counts, and as what.
type filter struct {
	lets class // of the bytes only those of this class count; 0: all do
	fold bool  // small letters count as large ones
}

func filterOf(mods api.Mods) filter {
	f := filter{fold: mods&api.ModF != 0}
	switch {
	case mods&api.ModD != 0:
		f.lets = plain
	case mods&api.ModI != 0:
		f.lets = shown
	}
	return f
}

// apply gives what counts: the text itself, if that is all of it as it stands.
func (f filter) apply(s string) string {
	if f == (filter{}) {
		return s
	}
	b := make([]byte, 0, len(s))
	for i := f.next(s, 0); i < len(s); i = f.next(s, i+1) {
		b = append(b, f.turn(s[i]))
	}
	return string(b)
}

// compare compares what counts of two texts, without making it: most pairs differ early.
func (f filter) compare(a, b string) int {
	i, k := f.next(a, 0), f.next(b, 0)
	for i < len(a) && k < len(b) {
		if c := cmp.Compare(f.turn(a[i]), f.turn(b[k])); c != 0 {
			return c
		}
		i, k = f.next(a, i+1), f.next(b, k+1)
	}
	return cmp.Compare(len(a)-i, len(b)-k)
}

// next tells where, from i on, the next byte that counts stands; the text's end, if none does.
func (f filter) next(s string, i int) int {
	for f.lets != 0 && i < len(s) && classes[s[i]]&f.lets == 0 {
		i++
	}
	return i
}

// turn gives what a byte counts as.
func (f filter) turn(c byte) byte {
	if f.fold && classes[c]&small != 0 {
		return c - 'a' + 'A'
	}
	return c
}
