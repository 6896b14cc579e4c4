package numeral_test

import (
	"testing"

	"mill/api"
	"mill/numeral"
)

const past = 1 << 40 // where exponents saturate

// The chapter's table of examples, call by call.

func TestExamplesDecimal(t *testing.T) {
	want(t, "blanks", numeral.Decimal(" \t-0012.50x"), api.Decimal{Neg: true, Whole: "12", Frac: "5", Size: 10})
	for _, s := range []string{"  +5", "-.", ""} {
		want(t, s, numeral.Decimal(s), api.Decimal{})
	}
	want(t, "-0.00", numeral.Decimal("-0.00"), api.Decimal{Size: 5})
}

func TestExamplesGeneral(t *testing.T) {
	want(t, "1e+x", numeral.General("1e+x"), api.General{Class: api.ClassNum, Digits: "1", Exp: 1, Size: 1})
	want(t, "1e+5x", numeral.General("1e+5x"), api.General{Class: api.ClassNum, Digits: "1", Exp: 6, Size: 4})
	want(t, "-Infinite", numeral.General("-Infinite"), api.General{Class: api.ClassLow, Size: 4})
	want(t, "0.00e99", numeral.General("0.00e99"), api.General{Class: api.ClassNum, Size: 7})
	want(t, "12e9999999999999999", numeral.General("12e9999999999999999"), api.General{Class: api.ClassNum, Digits: "12", Exp: past + 2, Size: 19})
	// Those of P3.2.
	want(t, "1200", numeral.General("1200"), api.General{Class: api.ClassNum, Digits: "12", Exp: 4, Size: 4})
	want(t, "0.005", numeral.General("0.005"), api.General{Class: api.ClassNum, Digits: "5", Exp: -2, Size: 5})
	want(t, "12e3", numeral.General("12e3"), api.General{Class: api.ClassNum, Digits: "12", Exp: 5, Size: 4})
}

func TestExamplesHuman(t *testing.T) {
	d, rank := numeral.Human(" 1.50k!")
	want(t, "1.50k", d, api.Decimal{Whole: "1", Frac: "5", Size: 6})
	want(t, "its rank", rank, 1)
	d, rank = numeral.Human("0K")
	want(t, "0K", d, api.Decimal{Size: 2})
	want(t, "its rank", rank, 0)
}

func TestExamplesCompare(t *testing.T) {
	for _, c := range []struct {
		kind   api.Mods
		a, b   string
		wanted int
	}{
		{api.ModN, "", "-0", 0},
		{api.ModG, "x", "nan", -1}, {api.ModG, "nan", "-inf", -1}, {api.ModG, "1e3", "1000.0", 0},
		{api.ModH, "2000M", "1G", -1}, {api.ModH, "-1G", "-2000M", -1}, {api.ModH, "0K", "x", 0},
		{api.ModM, " january", "FEB", -1}, {api.ModM, "x", "jan", -1},
		{api.ModV, "file-1.9", "file-1.10", -1}, {api.ModV, "a~", "a", -1}, {api.ModV, "a", "a0", -1}, {api.ModV, "x007", "x7", 0},
		{api.ModN + api.ModR, "10", "9", -1},
		// Those of P3.5.
		{api.ModV, "1.9", "1.10", -1}, {api.ModV, "a01", "a1", 0},
	} {
		want(t, c.a+" against "+c.b, numeral.Compare(c.kind, c.a, c.b), c.wanted)
		want(t, c.b+" against "+c.a, numeral.Compare(c.kind, c.b, c.a), -c.wanted)
	}
}

func TestExamplesEmbed(t *testing.T) {
	want(t, "ModN", numeral.Embed(api.ModN, "5"), string([]byte{96, 64, 0, 0, 0, 0, 0, 0, 1, 53, 0}))
	want(t, "ModM", numeral.Embed(api.ModM, "Mar"), "\x03")
	want(t, "ModV", numeral.Embed(api.ModV, ""), "\x02\x00")
	want(t, "bytewise", numeral.Embed(0, "a\x00"), "a\x01\x01\x00")
}
