package numeral

import "mill/api"

// Embed gives bytes whose order is Compare's; none is the beginning of another.
func Embed(kind api.Mods, s string) string {
	switch kind {
	case api.ModN, api.ModG, api.ModH:
		return embedValue(kind, valueOf(kind, s))
	case api.ModM:
		return string([]byte{byte(Month(s))})
	case api.ModV:
		return embedVersion(s)
	}
	return embedBytes(s)
}

func embedValue(kind api.Mods, v value) string {
	if v.class != classBelow && v.class != classAbove {
		return string([]byte{v.class})
	}
	b := append(make([]byte, 0, v.digits.count()+11), v.class)
	if kind == api.ModH {
		b = append(b, byte(v.rank))
	}
	// So much more that it is never below 0: bytes know no sign.
	b = appendCount(b, uint64(v.exp+1<<62))
	b = v.digits.appendTo(b)
	b = append(b, 0)
	if v.class == classBelow {
		for i := 1; i < len(b); i++ {
			b[i] = 255 - b[i]
		}
	}
	return string(b)
}

func embedVersion(s string) string {
	b := make([]byte, 0, len(s)+4)
	for s != "" {
		var p pair
		p, s = cutPair(s)
		b = p.appendTo(b)
	}
	return string(pair{}.appendTo(b))
}

func (p pair) appendTo(b []byte) []byte {
	for i := range len(p.plain) {
		b = append(b, rank(p.plain[i]))
	}
	b = append(b, endRank)
	if p.digits == "" {
		return append(b, 0)
	}
	n := p.number()
	b = appendCount(append(b, 1), uint64(len(n)))
	return append(b, n...)
}

func embedBytes(s string) string {
	b := make([]byte, 0, len(s)+1)
	for i := range len(s) {
		if s[i] <= 1 {
			b = append(b, 1, s[i]+1)
		} else {
			b = append(b, s[i])
		}
	}
	return string(append(b, 0))
}

// appendCount appends the 8 bytes of a number, the highest first.
func appendCount(b []byte, n uint64) []byte {
	for i := range 8 {
		b = append(b, byte(n>>(56-8*i)))
	}
	return b
}
