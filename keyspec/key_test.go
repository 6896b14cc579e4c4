package keyspec_test

import (
	"regexp"
	"strconv"
	"strings"
	"testing"

	"mill/api"
	"mill/keyspec"
)

func goodKey(t *testing.T, def string, wanted api.Key) {
	t.Helper()
	k, place, e := keyspec.ParseKey(def)
	if k != wanted || place != 0 || e != api.OK {
		t.Errorf("ParseKey(%.40q): %+v, %d, %d, want %+v", def, k, place, e, wanted)
	}
}

func badKey(t *testing.T, def string, place int, wanted api.Errno) {
	t.Helper()
	k, at, e := keyspec.ParseKey(def)
	if k != (api.Key{}) || at != place || e != wanted {
		t.Errorf("ParseKey(%.40q): %+v, %d, %d, want %d, %d", def, k, at, e, place, wanted)
	}
}

// P4.3: places, bytes, letters, and what stands where nothing is given.
func TestParseKey(t *testing.T) {
	for _, c := range []struct {
		def    string
		wanted api.Key
	}{
		{"1", api.Key{Field: 1, Char: 1}},
		{"007", api.Key{Field: 7, Char: 1}},
		{"2.3", api.Key{Field: 2, Char: 3}},
		{"2.03", api.Key{Field: 2, Char: 3}},
		{"2.10", api.Key{Field: 2, Char: 10}},
		{"1,1", api.Key{Field: 1, Char: 1, EndField: 1}},
		{"1,2.0", api.Key{Field: 1, Char: 1, EndField: 2}},
		{"1,2.00", api.Key{Field: 1, Char: 1, EndField: 2}},
		{"1,2.05", api.Key{Field: 1, Char: 1, EndField: 2, EndChar: 5}},
		{"3.4,5.6", api.Key{Field: 3, Char: 4, EndField: 5, EndChar: 6}},
		{"9.9,1.1", api.Key{Field: 9, Char: 9, EndField: 1, EndChar: 1}},
		{"1b", api.Key{Field: 1, Char: 1, Mods: api.ModB}},
		{"1,2b", api.Key{Field: 1, Char: 1, EndField: 2, EndB: true}},
		{"1b,2b", api.Key{Field: 1, Char: 1, EndField: 2, Mods: api.ModB, EndB: true}},
		{"1b,2", api.Key{Field: 1, Char: 1, EndField: 2, Mods: api.ModB}},
		{"1rbrb", api.Key{Field: 1, Char: 1, Mods: api.ModB | api.ModR}},
		{"1nn,2nrn", api.Key{Field: 1, Char: 1, EndField: 2, Mods: api.ModN | api.ModR}},
		{"1d,2.3if", api.Key{Field: 1, Char: 1, EndField: 2, EndChar: 3, Mods: api.ModD | api.ModI | api.ModF}},
		{"1.2Vr,3.4fb", api.Key{Field: 1, Char: 2, EndField: 3, EndChar: 4, Mods: api.ModV | api.ModR | api.ModF, EndB: true}},
		{"1" + strings.Repeat("r", 100000), api.Key{Field: 1, Char: 1, Mods: api.ModR}},
	} {
		goodKey(t, c.def, c.wanted)
	}
}

// P4.3: each letter says its modifier, in both places, and no other byte does.
func TestParseKeyLetters(t *testing.T) {
	mods := modsByLetter()
	for i := range 256 {
		c := string([]byte{byte(i)})
		first := api.Key{Field: 1, Char: 1, Mods: mods[c]}
		second := api.Key{Field: 1, Char: 1, EndField: 2, Mods: mods[c]}
		if c == "b" {
			second.Mods, second.EndB = 0, true
		}
		switch {
		case mods[c] != 0:
			goodKey(t, "1"+c, first)
			goodKey(t, "1,2"+c, second)
		case c == ".":
			badKey(t, "1.", 2, api.ErrKey)
			badKey(t, "1,2.", 4, api.ErrKey)
		case c == ",":
			badKey(t, "1,", 2, api.ErrKey)
			badKey(t, "1,2,", 3, api.ErrKey)
		case i >= '0' && i <= '9':
			goodKey(t, "1"+c, api.Key{Field: 10 + i - '0', Char: 1})
		default:
			badKey(t, "1"+c, 1, api.ErrKey)
			badKey(t, "1r"+c, 2, api.ErrKey)
			badKey(t, "1,2"+c, 3, api.ErrKey)
			badKey(t, "1,2r"+c, 4, api.ErrKey)
			badKey(t, c+"1", 0, api.ErrKey)
			badKey(t, "1."+c, 2, api.ErrKey)
			badKey(t, "1,"+c, 2, api.ErrKey)
			badKey(t, "1,2."+c, 4, api.ErrKey)
		}
	}
}

// modsByLetter says each letter's modifier, one by one.
func modsByLetter() map[string]api.Mods {
	return map[string]api.Mods{
		"b": api.ModB, "d": api.ModD, "f": api.ModF, "g": api.ModG, "h": api.ModH,
		"i": api.ModI, "M": api.ModM, "n": api.ModN, "r": api.ModR, "V": api.ModV,
	}
}

// P4.3: each of the four numbers saturates.
func TestParseKeySaturates(t *testing.T) {
	most := api.MaxField
	for _, n := range []string{"2147483647", "2147483648", "002147483648", "4294967296", "4294967297", "18446744073709551617", strings.Repeat("9", 5000), "1" + strings.Repeat("0", 5000)} {
		goodKey(t, n, api.Key{Field: most, Char: 1})
		goodKey(t, "1."+n, api.Key{Field: 1, Char: most})
		goodKey(t, "1,"+n, api.Key{Field: 1, Char: 1, EndField: most})
		goodKey(t, "1,1."+n, api.Key{Field: 1, Char: 1, EndField: 1, EndChar: most})
	}
	goodKey(t, "2147483646.2147483645,2147483644.2147483643", api.Key{Field: most - 1, Char: most - 2, EndField: most - 3, EndChar: most - 4})
	goodKey(t, strings.Repeat("0", 5000)+"1", api.Key{Field: 1, Char: 1})
}

// P4.3: what is at fault, and where.
func TestParseKeyFaults(t *testing.T) {
	for _, c := range []struct {
		def   string
		place int
	}{
		{"", 0}, {".", 0}, {",", 0}, {"n", 0}, {"-1", 0}, {"+1", 0}, {" 1", 0}, {",2", 0}, {".2", 0},
		{"1.", 2}, {"1..2", 2}, {"1.,2", 2}, {"1.n", 2}, {"1.2.3", 3}, {"1n.2", 2}, {"1n2", 2},
		{"1,", 2}, {"1,,2", 2}, {"1,.2", 2}, {"1,n", 2}, {"1n,b", 3}, {"1,2,3", 3}, {"1,2.", 4}, {"1,2.n", 4}, {"1,2.,", 4}, {"1,2.3.4", 5}, {"1,2.3b4", 6}, {"1 ", 1}, {"1,2 ", 3}, {"1\x00", 1},
		// A 0 is at fault at its first byte, once it has ended.
		{"0", 0}, {"000", 0}, {"00.5", 0}, {"0x", 0}, {"0,1", 0}, {"0n", 0},
		{"1.0", 2}, {"12.000", 3}, {"1.0,2", 2}, {"1.0n", 2}, {"1.00x", 2}, {"1.0.", 2},
		{"1,0", 2}, {"1n,00", 3}, {"1,0.1", 2}, {"1,0b", 2}, {"1.1,00x", 4},
		// ErrKey comes ahead of ErrMods.
		{"1nd,", 4}, {"1nd,0", 4}, {"1nM,2x", 5}, {"1Mn.", 3},
	} {
		badKey(t, c.def, c.place, api.ErrKey)
	}
}

// P4.2, P4.3: which modifiers of a key go together: all sets of them, in each place and spread over both.
func TestTogether(t *testing.T) {
	const all = "bdfghiMnrV"
	for set := range 1 << len(all) {
		letters, kinds, marks := "", 0, 0
		for i := range len(all) {
			if set>>i&1 == 0 {
				continue
			}
			letters += all[i : i+1]
			kinds += strings.Count("nghMV", all[i:i+1])
			marks += strings.Count("di", all[i:i+1])
		}
		wanted := api.OK
		if kinds > 1 || kinds == 1 && marks > 0 {
			wanted = api.ErrMods
		}
		half := len(letters) / 2
		for _, def := range []string{"1" + letters, "1,2" + letters, "1" + letters[:half] + ",2" + letters[half:], "1" + letters[half:] + ",2" + letters[:half]} {
			k, place, e := keyspec.ParseKey(def)
			if e != wanted || place != 0 || e != api.OK && k != (api.Key{}) {
				t.Errorf("ParseKey(%q): %+v, %d, %d, want %d", def, k, place, e, wanted)
			}
		}
		// The same of the global ones, which the one key has.
		argv, place := []string{"-r" + letters}, 0
		if wanted != api.OK {
			place = 1
		}
		if _, at, e := keyspec.Parse(argv); at != place || e != wanted {
			t.Errorf("Parse(%q): %d, %d, want %d, %d", argv, at, e, place, wanted)
		}
	}
}

// The model of P4.3 goes by regular expressions: for a whole key, for the beginning of one, and for a beginning that ends with a 0 that may not be.
var (
	modelKey  = regexp.MustCompile(`^(` + some + `)(?:\.(` + some + `))?(` + mods + `)(?:,(` + some + `)(?:\.([0-9]+))?(` + mods + `))?$`)
	modelHead = regexp.MustCompile(`^(?:[0-9]*|` + some + `\.[0-9]*|` + head + `|` + head + `,[0-9]*|` + head + `,` + some + `\.[0-9]*|` + head + `,` + some + `(?:\.[0-9]+)?` + mods + `)$`)
	modelZero = regexp.MustCompile(`(?:^|,|^[0-9]+\.)(0+)$`)
)

const (
	some = `0*[1-9][0-9]*`
	mods = `[bdfghiMnrV]*`
	head = some + `(?:\.` + some + `)?` + mods
)

func modelParseKey(s string) (api.Key, int, api.Errno) {
	m := modelKey.FindStringSubmatch(s)
	if m == nil {
		i := len(s)
		for !modelHead.MatchString(s[:i]) {
			i--
		}
		if z := modelZero.FindStringSubmatch(s[:i]); z != nil {
			i -= len(z[1])
		}
		return api.Key{}, i, api.ErrKey
	}
	k := api.Key{Field: modelNumber(m[1], 0), Char: modelNumber(m[2], 1), EndField: modelNumber(m[4], 0), EndChar: modelNumber(m[5], 0), EndB: strings.Contains(m[6], "b")}
	letters := m[3] + strings.ReplaceAll(m[6], "b", "")
	for c, bit := range modsByLetter() {
		if strings.Contains(letters, c) {
			k.Mods |= bit
		}
	}
	if !modelTogether(k.Mods) {
		return api.Key{}, 0, api.ErrMods
	}
	return k, 0, api.OK
}

func modelTogether(m api.Mods) bool {
	n := 0
	for _, kind := range []api.Mods{api.ModN, api.ModG, api.ModH, api.ModM, api.ModV} {
		if m&kind != 0 {
			n++
		}
	}
	return n == 0 || n == 1 && m&api.ModD == 0 && m&api.ModI == 0
}

// modelNumber is a number that saturates at MaxField; absent is what stands where there is none.
func modelNumber(s string, absent int) int {
	if s == "" {
		return absent
	}
	n, err := strconv.ParseUint(s, 10, 31)
	if err != nil {
		return api.MaxField
	}
	return int(n)
}

// P4.3: all short texts of what keys are made of, against the model; P4.9: what PrintKey gives of a key gives the key back.
func TestParseKeyAll(t *testing.T) {
	for _, s := range append(texts("019.,bnx", 5), texts("0.,", 8)...) {
		k, place, e := keyspec.ParseKey(s)
		mk, mplace, me := modelParseKey(s)
		if k != mk || place != mplace || e != me {
			t.Errorf("ParseKey(%q): %+v, %d, %d, want %+v, %d, %d", s, k, place, e, mk, mplace, me)
		}
		if e == api.OK {
			roundKey(t, k)
		}
	}
}

// roundKey tells that PrintKey gives a text that says the key.
func roundKey(t *testing.T, k api.Key) {
	t.Helper()
	def, e := keyspec.PrintKey(k)
	if e != api.OK {
		t.Errorf("PrintKey(%+v): %d", k, e)
		return
	}
	goodKey(t, def, k)
}

// P4.9: the text's parts, and which of them are left out.
func TestPrintKey(t *testing.T) {
	const all = api.ModR<<1 - 1
	for _, c := range []struct {
		k      api.Key
		wanted string
	}{
		{api.Key{Field: 1, Char: 1}, "1"},
		{api.Key{Field: 10, Char: 2}, "10.2"},
		{api.Key{Field: 1, Char: 1, EndField: 1}, "1,1"},
		{api.Key{Field: 1, Char: 1, EndField: 2, EndChar: 1}, "1,2.1"},
		{api.Key{Field: 1, Char: 1, EndField: 2, EndB: true}, "1,2b"},
		{api.Key{Field: 1, Char: 1, EndField: 2, EndChar: 3, EndB: true}, "1,2.3b"},
		{api.Key{Field: 1, Char: 1, Mods: api.ModB}, "1b"},
		{api.Key{Field: 3, Char: 4, EndField: 5, EndChar: 6, Mods: api.ModR | api.ModB, EndB: true}, "3.4br,5.6b"},
		{api.Key{Field: 1, Char: 1, EndField: 2, Mods: api.ModF | api.ModD | api.ModI | api.ModR | api.ModB}, "1bdfir,2"},
		{api.Key{Field: 1, Char: 1, Mods: api.ModR | api.ModM}, "1Mr"},
		{api.Key{Field: 1, Char: 1, Mods: api.ModR | api.ModV | api.ModF}, "1frV"},
		{api.Key{Field: 1, Char: 1, Mods: api.ModR | api.ModH | api.ModB}, "1bhr"},
		{api.Key{Field: 1, Char: 1, Mods: api.ModG | api.ModF | api.ModR}, "1fgr"},
		{api.Key{Field: 1, Char: 1, Mods: api.ModN | api.ModF | api.ModR}, "1fnr"},
		{api.Key{Field: api.MaxField, Char: api.MaxField, EndField: api.MaxField, EndChar: api.MaxField}, "2147483647.2147483647,2147483647.2147483647"},
	} {
		def, e := keyspec.PrintKey(c.k)
		want(t, "PrintKey", def, c.wanted)
		want(t, c.wanted, e, api.OK)
		goodKey(t, c.wanted, c.k)
	}
	for m := range all + 1 {
		k := api.Key{Field: 2, Char: 1, EndField: 3, Mods: m}
		if modelTogether(m) {
			roundKey(t, k)
		} else {
			noKey(t, k)
		}
	}
}

// noKey tells that no text says this key: PrintKey refuses it, and Check refuses options with it.
func noKey(t *testing.T, k api.Key) {
	t.Helper()
	def, e := keyspec.PrintKey(k)
	if def != "" || e != api.ErrKey {
		t.Errorf("PrintKey(%+v): %q, %d", k, def, e)
	}
	o := none(func(o *api.Options) { o.Keys = []api.Key{{Field: 1, Char: 1}, k} })
	want(t, "Check", keyspec.Check(o), api.ErrConflict)
}

// P4.9, P4.7: keys that no text says.
func TestPrintKeyRefuses(t *testing.T) {
	const most = api.MaxField
	for _, k := range []api.Key{
		{},
		{Field: 1}, {Char: 1}, {Field: -1, Char: 1}, {Field: 1, Char: -1}, {Field: 1, Char: 1, EndField: -1}, {Field: 1, Char: 1, EndField: 1, EndChar: -1},
		{Field: most + 1, Char: 1}, {Field: 1, Char: most + 1}, {Field: 1, Char: 1, EndField: most + 1}, {Field: 1, Char: 1, EndField: 1, EndChar: most + 1},
		{Field: 1, Char: 1, EndChar: 1}, {Field: 1, Char: 1, EndB: true}, {Field: 1, Char: 1, EndChar: 1, EndB: true},
		{Field: 1, Char: 1, Mods: api.ModR << 1}, {Field: 1, Char: 1, Mods: 1 << 15}, {Field: 1, Char: 1, Mods: api.ModN | 1<<12},
		{Field: 1, Char: 1, Mods: api.ModN | api.ModG}, {Field: 1, Char: 1, Mods: api.ModV | api.ModD}, {Field: 1, Char: 1, Mods: api.ModH | api.ModI},
		{Field: -1 << 63, Char: -1 << 63, EndField: -1 << 63, EndChar: -1 << 63, Mods: 1<<16 - 1, EndB: true},
		{Field: 1<<63 - 1, Char: 1<<63 - 1, EndField: 1<<63 - 1, EndChar: 1<<63 - 1},
	} {
		noKey(t, k)
	}
}
