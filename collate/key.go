package collate

import (
	"strings"

	"mill/api"
	"mill/numeral"
)

// key is a key of an order.
type key struct {
	place   api.Key
	tab     int
	filter  filter
	compare func(a, b string) int // of what two lines have in the key's place
}

func keyOf(place api.Key, tab int) key {
	k := key{place: place, tab: tab, filter: filterOf(place.Mods)}
	k.compare = comparison(kindOf(place.Mods), k.filter)
	if place.Mods&api.ModR != 0 {
		k.compare = turned(k.compare)
	}
	return k
}

// kindOf gives the kind of number that a key is; 0: it is text.
func kindOf(mods api.Mods) api.Mods {
	return mods & (api.ModN | api.ModG | api.ModH | api.ModM | api.ModV)
}

// comparison gives the function that compares keys of a kind.
func comparison(kind api.Mods, f filter) func(a, b string) int {
	switch {
	case kind == 0 && f == (filter{}):
		return strings.Compare
	case kind == 0:
		return f.compare
	case kind == api.ModV:
		return func(a, b string) int { return numeral.Compare(kind, f.apply(a), f.apply(b)) }
	}
	return func(a, b string) int { return numeral.Compare(kind, a, b) }
}

// turned gives a comparison the other way round.
func turned(compare func(a, b string) int) func(a, b string) int {
	return func(a, b string) int { return compare(b, a) }
}

// cut gives what stands in the key's place, as it stands.
func (k *key) cut(line string) string {
	s := k.span(line)
	return line[s.From:s.To]
}

func (k *key) span(line string) api.Span {
	from := k.begin(line)
	return api.Span{From: from, To: max(from, k.end(line))}
}

func (k *key) begin(line string) int {
	at := fieldBegin(line, k.tab, k.place.Field)
	return further(line, at, k.place.Mods&api.ModB != 0, k.place.Char-1)
}

func (k *key) end(line string) int {
	if k.place.EndField == 0 {
		return len(line)
	}
	at := fieldBegin(line, k.tab, k.place.EndField)
	if k.place.EndChar == 0 {
		return fieldEnd(line, k.tab, at)
	}
	return further(line, at, k.place.EndB, k.place.EndChar)
}

// further goes from at on: behind the blanks, if these are passed over, and then by n bytes, as far as there are any.
func further(line string, at int, blanks bool, n int) int {
	if blanks {
		at = behindBlanks(line, at)
	}
	return at + min(n, len(line)-at)
}
