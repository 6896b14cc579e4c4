package collate_test

import (
	"math/rand"
	"regexp"
	"slices"
	"strings"
	"testing"

	"mill/api"
	"mill/collate"
	"mill/numeral"
)

// The model says the chapter once more, by other means: fields by a regular expression or a split, places by lists of fields, filters by regular expressions, what is inherited by hand.

var modelField = regexp.MustCompile(`^[ \t]*[^ \t]*`)

func modelFields(line string, tab int) (l []api.Span) {
	at := 0
	add := func(size int) {
		l = append(l, api.Span{From: at, To: at + size})
		at += size
	}
	switch {
	case tab < -1 || tab > 255:
	case tab == -1:
		for at < len(line) {
			add(len(modelField.FindString(line[at:])))
		}
	default:
		for _, s := range strings.Split(line, string([]byte{byte(tab)})) {
			add(len(s))
			at++
		}
	}
	return l
}

// modelKeys are the keys of an order, with what they inherit.
func modelKeys(o api.Options) []api.Key {
	l := slices.Clone(o.Keys)
	if len(l) == 0 {
		l = append(l, api.Key{Field: 1, Char: 1})
	}
	for i, k := range l {
		if k.Mods == 0 && !k.EndB {
			l[i].Mods, l[i].EndB = o.Mods, o.Mods&api.ModB != 0
		}
	}
	return l
}

func modelSpan(line string, tab int, k api.Key) api.Span {
	fields := modelFields(line, tab)
	field := func(n int) api.Span {
		if n > len(fields) {
			return api.Span{From: len(line), To: len(line)}
		}
		return fields[n-1]
	}
	blanks := func(at int) int { return len(line[at:]) - len(strings.TrimLeft(line[at:], " \t")) }
	from := field(k.Field).From
	if k.Mods&api.ModB != 0 {
		from += blanks(from)
	}
	from = min(from+k.Char-1, len(line))
	to := len(line)
	if k.EndField > 0 {
		to = field(k.EndField).To
		if k.EndChar > 0 {
			to = field(k.EndField).From
			if k.EndB {
				to += blanks(to)
			}
			to = min(to+k.EndChar, len(line))
		}
	}
	return api.Span{From: from, To: max(from, to)}
}

var (
	modelNotPlain = regexp.MustCompile(`(?s)[^ \tA-Za-z0-9]`)
	modelNotShown = regexp.MustCompile(`(?s)[^ -~]`)
	modelSmall    = strings.NewReplacer("a", "A", "b", "B", "c", "C", "d", "D", "e", "E", "f", "F", "g", "G", "h", "H", "i", "I", "j", "J", "k", "K", "l", "L", "m", "M",
		"n", "N", "o", "O", "p", "P", "q", "Q", "r", "R", "s", "S", "t", "T", "u", "U", "v", "V", "w", "W", "x", "X", "y", "Y", "z", "Z")
)

func modelFilter(s string, mods api.Mods) string {
	switch {
	case mods&api.ModD != 0:
		s = modelNotPlain.ReplaceAllString(s, "")
	case mods&api.ModI != 0:
		s = modelNotShown.ReplaceAllString(s, "")
	}
	if mods&api.ModF != 0 {
		s = modelSmall.Replace(s)
	}
	return s
}

func modelKeysCompare(o api.Options, a, b string) int {
	for _, k := range modelKeys(o) {
		x, y := modelSpan(a, o.Tab, k), modelSpan(b, o.Tab, k)
		s, u := a[x.From:x.To], b[y.From:y.To]
		kind := api.Mods(0)
		for _, m := range []api.Mods{api.ModN, api.ModG, api.ModH, api.ModM, api.ModV} {
			if k.Mods&m != 0 {
				kind = m
			}
		}
		if kind == 0 || kind == api.ModV {
			s, u = modelFilter(s, k.Mods), modelFilter(u, k.Mods)
		}
		c := numeral.Compare(kind, s, u)
		if k.Mods&api.ModR != 0 {
			c = -c
		}
		if c != 0 {
			return c
		}
	}
	return 0
}

func modelCompare(o api.Options, a, b string) int {
	c := modelKeysCompare(o, a, b)
	if c == 0 && !o.Stable && !o.Unique {
		c = strings.Compare(a, b)
		if o.Mods&api.ModR != 0 {
			c = -c
		}
	}
	return c
}

// agrees holds all that an order says of two lines against the model.
func agrees(t *testing.T, o api.Options, order *collate.Order, a, b string) bool {
	t.Helper()
	good := true
	tell := func(what string, got, wanted any) {
		if got != wanted {
			t.Errorf("%s of %q, %q by %+v: %v, want %v", what, a, b, o, got, wanted)
			good = false
		}
	}
	for i, k := range modelKeys(o) {
		s := modelSpan(a, o.Tab, k)
		tell("Span", order.Span(a, i), s)
		tell("Filter", order.Filter(a, i), modelFilter(a[s.From:s.To], k.Mods))
	}
	c := modelCompare(o, a, b)
	tell("Keys", order.Keys(a, b), modelKeysCompare(o, a, b))
	tell("Compare", order.Compare(a, b), c)
	tell("Compare back", order.Compare(b, a), -c)
	tell("Transforms", strings.Compare(order.Transform(a), order.Transform(b)), c)
	return good
}

// anyOptions makes options that keys of any kind may have.
func anyOptions(r *rand.Rand) api.Options {
	o := api.Options{Tab: -1, Mods: anyMods(r), Stable: r.Intn(4) == 0, Unique: r.Intn(4) == 0}
	switch r.Intn(4) {
	case 0:
		o.Tab = ','
	case 1:
		o.Tab = int(" \tab0:\x00\xff"[r.Intn(8)])
	}
	for range r.Intn(4) {
		k := api.Key{Field: 1 + r.Intn(4), Char: 1 + r.Intn(3)}
		if r.Intn(3) > 0 {
			k.EndField, k.EndChar, k.EndB = 1+r.Intn(4), r.Intn(4), r.Intn(3) == 0
		}
		if r.Intn(2) == 0 {
			k.Mods = anyMods(r)
		}
		o.Keys = append(o.Keys, k)
	}
	return o
}

// anyMods makes modifiers that go together.
func anyMods(r *rand.Rand) (mods api.Mods) {
	for _, m := range []api.Mods{api.ModB, api.ModF, api.ModR, api.ModD, api.ModI} {
		if r.Intn(3) == 0 {
			mods |= m
		}
	}
	if r.Intn(2) == 0 {
		mods &^= api.ModD | api.ModI
		mods |= []api.Mods{api.ModN, api.ModG, api.ModH, api.ModM, api.ModV}[r.Intn(5)]
	}
	return mods
}

// P5.3 to P5.8, P5.10: any orders and any lines are the same to both.
func TestAgainstTheModel(t *testing.T) {
	r := rand.New(rand.NewSource(5))
	lines := strange(6, 2000)
	for range 4000 {
		o := anyOptions(r)
		order := made(t, o)
		for range 40 {
			a, b := lines[r.Intn(len(lines))], lines[r.Intn(len(lines))]
			if r.Intn(3) == 0 {
				b = a[:r.Intn(len(a)+1)] + strange(r.Int63(), 1)[0]
			}
			if !agrees(t, o, order, a, b) {
				return
			}
		}
	}
}

// P5.3 to P5.8, P5.10: the orders that are named, for all pairs of short lines.
func TestShortLinesAgainstTheModel(t *testing.T) {
	lines := append(texts("a, B", 3), texts("1-\x00\x7f", 2)...)
	for _, words := range manyOrders {
		o := argv(t, strings.Fields(words)...)
		order := made(t, o)
		for _, a := range lines {
			for _, b := range lines {
				if !agrees(t, o, order, a, b) {
					return
				}
			}
		}
	}
}
