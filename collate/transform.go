package collate

import (
	"mill/api"
	"mill/numeral"
)

// Transform gives bytes whose order is Compare's.
func (o *Order) Transform(line string) string {
	var b []byte
	for i := range o.Count() {
		b = o.keys[i].appendTo(b, line)
	}
	if o != nil && o.whole {
		b = appendTurned(b, numeral.Embed(0, line), o.back)
	}
	return string(b)
}

// appendTo appends the bytes of what stands in the key's place. As none are the beginning of another line's, those of the next key decide only where these are the same.
func (k *key) appendTo(b []byte, line string) []byte {
	kind, s := kindOf(k.place.Mods), k.cut(line)
	if kind == 0 || kind == api.ModV {
		s = k.filter.apply(s)
	}
	return appendTurned(b, numeral.Embed(kind, s), k.place.Mods&api.ModR != 0)
}

// appendTurned appends bytes; if back, so that their order is the other way round.
func appendTurned(b []byte, s string, back bool) []byte {
	from := len(b)
	b = append(b, s...)
	if back {
		for i := from; i < len(b); i++ {
			b[i] = 255 - b[i]
		}
	}
	return b
}
