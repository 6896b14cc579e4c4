package keyspec

import (
	"strconv"
	"strings"

	"mill/api"
)

// ParseKey gives the key of a definition, and tells the place of the first fault.
func ParseKey(def string) (api.Key, int, api.Errno) {
	s := scanner{text: def}
	var halves [2]half
	n := 0
next:
	h, ok := s.takeHalf(1 - n)
	if !ok {
		return api.Key{}, s.at, api.ErrKey
	}
	halves[n] = h
	if n == 0 && s.skip(',') {
		n++
		goto next
	}
	if s.at < len(def) {
		return api.Key{}, s.at, api.ErrKey
	}
	k := keyOf(halves[0], halves[1])
	if !together(k.Mods) {
		return api.Key{}, 0, api.ErrMods
	}
	return k, 0, api.OK
}

// PrintKey gives a key's definition.
func PrintKey(k api.Key) (string, api.Errno) {
	if !keyHolds(k) {
		return "", api.ErrKey
	}
	var b strings.Builder
	b.WriteString(strconv.Itoa(k.Field))
	if k.Char != 1 {
		b.WriteString("." + strconv.Itoa(k.Char))
	}
	b.WriteString(lettersOf(k.Mods))
	if k.EndField != 0 {
		b.WriteString("," + strconv.Itoa(k.EndField))
	}
	if k.EndChar != 0 {
		b.WriteString("." + strconv.Itoa(k.EndChar))
	}
	if k.EndB {
		b.WriteByte('b')
	}
	return b.String(), api.OK
}

// keyHolds tells whether a text says this key.
func keyHolds(k api.Key) bool {
	return within(k.Field, 1, api.MaxField) && within(k.Char, 1, api.MaxField) &&
		within(k.EndField, 0, api.MaxField) && within(k.EndChar, 0, api.MaxField) &&
		(k.EndField != 0 || k.EndChar == 0 && !k.EndB) &&
		k.Mods&^allMods == 0 && together(k.Mods)
}

// half is one of a key's two places.
type half struct {
	field int
	char  int
	mods  api.Mods
}

func keyOf(from, to half) api.Key {
	return api.Key{
		Field: from.field, Char: from.char, EndField: to.field, EndChar: to.char,
		Mods: from.mods | to.mods&^api.ModB, EndB: to.mods&api.ModB != 0,
	}
}

// scanner goes through a key's text; where something is at fault it stands there.
type scanner struct {
	text string
	at   int
}

// takeHalf takes a place whose byte is least or more, and least where none is given.
func (s *scanner) takeHalf(least int) (half, bool) {
	h := half{char: least}
	ok := s.number(&h.field, 1)
	if ok && s.skip('.') {
		ok = s.number(&h.char, least)
	}
	for ok && s.at < len(s.text) {
		m := modOf(s.text[s.at])
		if m == 0 {
			break
		}
		h.mods |= m
		s.at++
	}
	return h, ok
}

// number takes a number of least or more.
func (s *scanner) number(to *int, least int) bool {
	n, size := digits(s.text[s.at:], api.MaxField)
	if size == 0 || n < least {
		return false
	}
	*to = n
	s.at += size
	return true
}

// skip takes one byte, if it stands there.
func (s *scanner) skip(c byte) bool {
	if s.at == len(s.text) || s.text[s.at] != c {
		return false
	}
	s.at++
	return true
}
