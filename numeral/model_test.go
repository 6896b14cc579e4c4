package numeral_test

import (
	"bytes"
	"encoding/binary"
	"math/big"
	"regexp"
	"strings"
	"testing"

	"mill/api"
	"mill/numeral"
)

// The model says the chapter once more, by other means: texts by regular expressions, numbers by fractions, versions by lists of ranks.

const decimals = `([0-9]+)\.?([0-9]*)|\.([0-9]+)`

var (
	modelN = longest(`^[ \t]*(-?)(?:` + decimals + `)`)
	modelG = longest(`^[ \t]*([+-]?)(?:` + decimals + `)(?:[eE]([+-]?[0-9]+))?`)
	modelW = longest(`^[ \t]*([+-]?)([iI][nN][fF](?:[iI][nN][iI][tT][yY])?|[nN][aA][nN])`)
	modelV = longest(`^[^0-9]*[0-9]*`)
)

func longest(s string) *regexp.Regexp {
	r := regexp.MustCompile(s)
	r.Longest()
	return r
}

func modelDecimal(s string) (api.Decimal, bool) {
	m := modelN.FindStringSubmatch(s)
	if m == nil {
		return api.Decimal{}, false
	}
	d := api.Decimal{Whole: strings.TrimLeft(m[2], "0"), Frac: strings.TrimRight(m[3]+m[4], "0"), Size: len(m[0])}
	d.Neg = m[1] == "-" && d.Whole+d.Frac != ""
	return d, true
}

func modelHuman(s string) (api.Decimal, int) {
	d, there := modelDecimal(s)
	if !there || d.Size == len(s) {
		return d, 0
	}
	rank := strings.IndexByte(" KMGTPEZYRQ", strings.Replace(s[d.Size:d.Size+1], "k", "K", 1)[0])
	if rank < 1 {
		return d, 0
	}
	d.Size++
	if d.Whole+d.Frac == "" {
		rank = 0
	}
	return d, rank
}

// modelGeneral works its digits out by a fraction: it is for small exponents.
func modelGeneral(s string) api.General {
	if m := modelW.FindStringSubmatch(s); m != nil {
		g := api.General{Class: api.ClassHigh, Size: len(m[0])}
		if m[2][0]|32 == 'n' {
			g.Class = api.ClassNaN
		} else if m[1] == "-" {
			g.Class = api.ClassLow
		}
		return g
	}
	m := modelG.FindString(s)
	if m == "" {
		return api.General{}
	}
	g := api.General{Class: api.ClassNum, Size: len(m)}
	x := fraction(strings.Trim(m, " \t"))
	if x.Sign() == 0 {
		return g
	}
	g.Neg = x.Sign() < 0
	x.Abs(x)
	one, ten := big.NewRat(1, 1), big.NewRat(10, 1)
	for x.Cmp(one) >= 0 {
		x.Quo(x, ten)
		g.Exp++
	}
	for x.Cmp(big.NewRat(1, 10)) < 0 {
		x.Mul(x, ten)
		g.Exp--
	}
	for x.Sign() != 0 {
		x.Mul(x, ten)
		digit := new(big.Int).Quo(x.Num(), x.Denom())
		g.Digits += digit.String()
		x.Sub(x, new(big.Rat).SetInt(digit))
	}
	return g
}

// fraction reads the text of a number that there is.
func fraction(s string) *big.Rat {
	x, ok := new(big.Rat).SetString(s)
	if !ok {
		panic("no fraction: " + s)
	}
	return x
}

func modelMonth(s string) int {
	s = strings.TrimLeft(s, " \t")
	for i := range 12 {
		name := "janfebmaraprmayjunjulaugsepoctnovdec"[3*i : 3*i+3]
		if len(s) >= 3 && bytes.Equal(asciiLower(s[:3]), []byte(name)) {
			return i + 1
		}
	}
	return 0
}

func asciiLower(s string) []byte {
	b := []byte(s)
	for i, c := range b {
		if c >= 'A' && c <= 'Z' {
			b[i] = c - 'A' + 'a'
		}
	}
	return b
}

var ranks = modelRanks()

// modelRanks gives the rank of each byte that is no digit.
func modelRanks() (ranks [256]int) {
	ranks['~'] = 1
	next := 3
	for c := 'A'; c <= 'Z'; c++ {
		ranks[c] = next
		next++
	}
	for c := 'a'; c <= 'z'; c++ {
		ranks[c] = next
		next++
	}
	for c := range 256 {
		if ranks[c] == 0 && (c < '0' || c > '9') {
			ranks[c] = next
			next++
		}
	}
	return ranks
}

// modelVersion gives a version as lists of numbers, which are compared number by number: behind a shorter list one thinks of pairs of empty runs.
func modelVersion(s string) (list []*big.Int) {
	for s != "" {
		p := modelV.FindString(s)
		s = s[len(p):]
		plain := strings.TrimRight(p, "0123456789")
		for i := range len(plain) {
			list = append(list, big.NewInt(int64(ranks[plain[i]])))
		}
		list = append(list, big.NewInt(2))
		number := big.NewInt(-1)
		if digits := p[len(plain):]; digits != "" {
			number.SetString(digits, 10)
		}
		list = append(list, number)
	}
	return list
}

func compareModelVersions(a, b []*big.Int) int {
	end := []*big.Int{big.NewInt(2), big.NewInt(-1)}
	for i := range max(len(a), len(b)) {
		x, y := end[(i+len(a))%2], end[(i+len(b))%2]
		if i < len(a) {
			x = a[i]
		}
		if i < len(b) {
			y = b[i]
		}
		if c := x.Cmp(y); c != 0 {
			return c
		}
	}
	return 0
}

// modelEmbed writes P3.7 down as it stands, from what the model or, of exponents, the program says of the text.
func modelEmbed(kind api.Mods, s string) string {
	switch kind {
	case api.ModN, api.ModG, api.ModH:
		return modelEmbedNumber(kind, s)
	case api.ModM:
		return string([]byte{byte(modelMonth(s))})
	case api.ModV:
		return modelEmbedVersion(s)
	}
	return strings.NewReplacer("\x00", "\x01\x01", "\x01", "\x01\x02").Replace(s) + "\x00"
}

func modelEmbedNumber(kind api.Mods, s string) string {
	var g api.General
	rank := ""
	switch kind {
	case api.ModG:
		g = modelGeneral(s)
	case api.ModN:
		g = modelGeneral(modelN.FindString(s))
	case api.ModH:
		_, r := modelHuman(s)
		g, rank = modelGeneral(modelN.FindString(s)), string([]byte{byte(r)})
	}
	switch {
	case g.Class == api.ClassNone && kind == api.ModG:
		return string([]byte{16})
	case g.Class == api.ClassNaN:
		return string([]byte{32})
	case g.Class == api.ClassLow:
		return string([]byte{48})
	case g.Class == api.ClassHigh:
		return string([]byte{112})
	case g.Digits == "":
		return string([]byte{80})
	}
	b := binary.BigEndian.AppendUint64([]byte(rank), uint64(g.Exp+1<<62))
	b = append(append(b, g.Digits...), 0)
	if !g.Neg {
		return string([]byte{96}) + string(b)
	}
	for i := range b {
		b[i] = ^b[i]
	}
	return string([]byte{64}) + string(b)
}

func modelEmbedVersion(s string) string {
	var b []byte
	for s != "" {
		p := modelV.FindString(s)
		s = s[len(p):]
		plain := strings.TrimRight(p, "0123456789")
		for i := range len(plain) {
			b = append(b, byte(ranks[plain[i]]))
		}
		b = append(b, 2)
		if digits := p[len(plain):]; digits == "" {
			b = append(b, 0)
		} else {
			n := strings.TrimLeft(digits, "0")
			b = append(binary.BigEndian.AppendUint64(append(b, 1), uint64(len(n))), n...)
		}
	}
	return string(append(b, 2, 0))
}

// P3.1 to P3.3, P3.7: all short texts of what numbers are made of, and many strange ones, say the same to both.
func TestAgainstTheModel(t *testing.T) {
	l := append(texts(" -+.05eK", 5), texts("\t-.1eE+", 5)...)
	l = append(l, texts("iInNfFaA- ", 4)...)
	l = append(l, texts("~aZ0 9", 4)...)
	for _, s := range append(l, strange(20000)...) {
		d, _ := modelDecimal(s)
		want(t, "Decimal of "+s, numeral.Decimal(s), d)
		want(t, "General of "+s, numeral.General(s), modelGeneral(s))
		wd, wr := modelHuman(s)
		d, r := numeral.Human(s)
		want(t, "Human of "+s, d, wd)
		want(t, "rank of "+s, r, wr)
		want(t, "Month of "+s, numeral.Month(s), modelMonth(s))
		for _, kind := range kinds {
			if got, wanted := numeral.Embed(kind, s), modelEmbed(kind, s); got != wanted {
				t.Errorf("Embed(%d, %q): %v, want %v", kind, s, []byte(got), []byte(wanted))
			}
		}
		if t.Failed() {
			return
		}
	}
}
