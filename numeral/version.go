package numeral

import (
	"cmp"
	"strings"
)

// pair is a part of a version: a run of bytes that are no digits, and a run of digits.
type pair struct {
	plain  string
	digits string
}

// cutPair takes the first pair off a version; of the empty text that is the pair of two empty runs.
func cutPair(s string) (pair, string) {
	i := 0
	for i < len(s) && !isDigit(s[i]) {
		i++
	}
	k := i
	for k < len(s) && isDigit(s[k]) {
		k++
	}
	return pair{s[:i], s[i:k]}, s[k:]
}

func compareVersions(a, b string) int {
	for a != "" || b != "" {
		var p, q pair
		p, a = cutPair(a)
		q, b = cutPair(b)
		if c := p.compare(q); c != 0 {
			return c
		}
	}
	return 0
}

func (p pair) compare(q pair) int {
	if c := comparePlain(p.plain, q.plain); c != 0 {
		return c
	}
	if p.digits == "" || q.digits == "" {
		return cmp.Compare(len(p.digits), len(q.digits))
	}
	x, y := p.number(), q.number()
	if len(x) != len(y) {
		return cmp.Compare(len(x), len(y))
	}
	return strings.Compare(x, y)
}

// number gives the digits of the number that they say.
func (p pair) number() string { return strings.TrimLeft(p.digits, "0") }

func comparePlain(x, y string) int {
	for i := range max(len(x), len(y)) {
		if c := cmp.Compare(rankAt(x, i), rankAt(y, i)); c != 0 {
			return c
		}
	}
	return 0
}

// endRank is the rank of a run's end: only ~ comes ahead of it.
const endRank = 2

func rankAt(plain string, i int) byte {
	if i < len(plain) {
		return rank(plain[i])
	}
	return endRank
}

// row says that the bytes up to last have ranks that rise with them, from rank on.
type row struct {
	first byte
	last  byte
	rank  byte
}

// ranks goes through all bytes but the digits, rising.
var ranks = [...]row{
	{0, '/', 55},
	{':', '@', 103},
	{'A', 'Z', 3},
	{'[', '`', 110},
	{'a', 'z', 29},
	{'{', '}', 116},
	{'~', '~', 1},
	{127, 255, 119},
}

// rank tells the rank of a byte that is no digit.
func rank(c byte) byte {
	i := 0
	for c > ranks[i].last {
		i++
	}
	return ranks[i].rank + (c - ranks[i].first)
}
