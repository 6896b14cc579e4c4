package numeral_test

import (
	"fmt"
	"strings"
	"testing"

	"mill/api"
	"mill/numeral"
)

// P3.1: the head's grammar, zeros at both ends, blanks, the sign of 0, the size.
func TestDecimal(t *testing.T) {
	for _, c := range []struct {
		s      string
		wanted api.Decimal
	}{
		{"0", api.Decimal{Size: 1}},
		{"-0", api.Decimal{Size: 2}},
		{"000", api.Decimal{Size: 3}},
		{"007", api.Decimal{Whole: "7", Size: 3}},
		{"700", api.Decimal{Whole: "700", Size: 3}},
		{"-7", api.Decimal{Neg: true, Whole: "7", Size: 2}},
		{"5.", api.Decimal{Whole: "5", Size: 2}},
		{"5.x", api.Decimal{Whole: "5", Size: 2}},
		{"-5.", api.Decimal{Neg: true, Whole: "5", Size: 3}},
		{"0.", api.Decimal{Size: 2}},
		{".5", api.Decimal{Frac: "5", Size: 2}},
		{"-.5", api.Decimal{Neg: true, Frac: "5", Size: 3}},
		{".0", api.Decimal{Size: 2}},
		{"-.0", api.Decimal{Size: 3}},
		{"00.00", api.Decimal{Size: 5}},
		{"0.0500", api.Decimal{Frac: "05", Size: 6}},
		{"10.01", api.Decimal{Whole: "10", Frac: "01", Size: 5}},
		{"1.2.3", api.Decimal{Whole: "1", Frac: "2", Size: 3}},
		{"1..2", api.Decimal{Whole: "1", Size: 2}},
		{"1-2", api.Decimal{Whole: "1", Size: 1}},
		{"1e5", api.Decimal{Whole: "1", Size: 1}},
		{"1,000", api.Decimal{Whole: "1", Size: 1}},
		{"1 2", api.Decimal{Whole: "1", Size: 1}},
		{"5K", api.Decimal{Whole: "5", Size: 1}},
		{"5\x00", api.Decimal{Whole: "5", Size: 1}},
		{" \t \t9", api.Decimal{Whole: "9", Size: 5}},
		{"\t-9 ", api.Decimal{Neg: true, Whole: "9", Size: 3}},
	} {
		want(t, fmt.Sprintf("Decimal(%q)", c.s), numeral.Decimal(c.s), c.wanted)
	}
}

// P3.1 to P3.3: texts that say no number at all.
func TestNoNumber(t *testing.T) {
	for _, s := range []string{
		"", " ", "\t", " \t ", "-", "+", ".", "-.", "+.", "--5", "-+5", "+-5", "++5", "- 5", "-\t5", "..5", ".-5", "-.x", ".e5", "e5", "-e5",
		"x", "x5", "K", "-K", ".K", " G", "\n5", "\r5", "\v5", "\f5", "\x005", "\xff5", "\u00a05", "\u0665", "\uff15", "/", ":", "-/", "-:", "i", "in", "na", "-in", "Kinf", "ınf", "iNſ",
	} {
		want(t, fmt.Sprintf("Decimal(%q)", s), numeral.Decimal(s), api.Decimal{})
		want(t, fmt.Sprintf("General(%q)", s), numeral.General(s), api.General{})
		d, rank := numeral.Human(s)
		want(t, fmt.Sprintf("Human(%q)", s), d, api.Decimal{})
		want(t, fmt.Sprintf("rank of %q", s), rank, 0)
	}
	// These are numbers of g alone.
	for _, s := range []string{"+5", "+.5", "inf", "-inf", "nan"} {
		want(t, s, numeral.Decimal(s), api.Decimal{})
		d, rank := numeral.Human(s + "K")
		want(t, s, d, api.Decimal{})
		want(t, s, rank, 0)
	}
}

// P3.2: the digits and where the point stands among them.
func TestGeneralDigits(t *testing.T) {
	for _, c := range []struct {
		s      string
		neg    bool
		digits string
		exp    int
	}{
		{"1", false, "1", 1}, {"+1", false, "1", 1}, {"-1", true, "1", 1}, {" \t-1", true, "1", 1},
		{"0", false, "", 0}, {"-0", false, "", 0}, {"+0.0", false, "", 0}, {"-0e5", false, "", 0}, {"0e-5", false, "", 0}, {".0e7", false, "", 0}, {"0.e1", false, "", 0},
		{"007", false, "7", 1}, {"100", false, "1", 3}, {"100.00", false, "1", 3}, {"00100.00100", false, "100001", 3},
		{"12.50", false, "125", 2}, {"5.", false, "5", 1}, {".5", false, "5", 0}, {"-.5", true, "5", 0}, {".050", false, "5", -1}, {"0.00102", false, "102", -2}, {"10.", false, "1", 2},
		{"1e0", false, "1", 1}, {"1E2", false, "1", 3}, {"1e-1", false, "1", 0}, {"1e+1", false, "1", 2}, {"1e007", false, "1", 8}, {"1e-007", false, "1", -6},
		{"5.e1", false, "5", 2}, {".5e1", false, "5", 1}, {".05e-1", false, "5", -2}, {"0.001e3", false, "1", 1}, {"1000e-3", false, "1", 1}, {"-12.5e2", true, "125", 4},
	} {
		want(t, c.s, numeral.General(c.s), api.General{Class: api.ClassNum, Neg: c.neg, Digits: c.digits, Exp: c.exp, Size: len(c.s)})
	}
}

// P3.2: an e without a digit, and whatever else stands behind a number, does not belong to it.
func TestGeneralTails(t *testing.T) {
	for _, number := range []string{"5", "+5", "-5", "5.", ".5", "0", "00.00", "5e1", "5E+1", "5.e-1", "inf", "INFINITY", "-Inf", "nan", "-NaN"} {
		alone := numeral.General(number)
		want(t, number, alone.Size, len(number))
		for _, tail := range []string{"x", " ", "\x00", "\xff", "-", "+", ",", "K", "ee1", "e", "E", "e+", "e-", "E-x", "e.", "e.5", "e +5", "e+-5", "e--5", "einf", "f", "initx"} {
			want(t, number+tail, numeral.General(number+tail), alone)
		}
	}
	want(t, "5..", numeral.General("5.."), api.General{Class: api.ClassNum, Digits: "5", Exp: 1, Size: 2})
	want(t, "1.2.3", numeral.General("1.2.3"), api.General{Class: api.ClassNum, Digits: "12", Exp: 1, Size: 3})
	want(t, "1e2.5", numeral.General("1e2.5"), api.General{Class: api.ClassNum, Digits: "1", Exp: 3, Size: 3})
	want(t, "1e2e3", numeral.General("1e2e3"), api.General{Class: api.ClassNum, Digits: "1", Exp: 3, Size: 3})
}

// P3.2: exponents saturate at 2^40 and -2^40, just there and however long they are.
func TestGeneralExponents(t *testing.T) {
	for _, c := range []struct {
		exp    string
		wanted int
	}{
		{"1099511627775", past - 1}, {"1099511627776", past}, {"1099511627777", past}, {"1099511627780", past}, {"10995116277760", past},
		{"9223372036854775807", past}, {"9223372036854775808", past}, {"18446744073709551616", past}, {"18446744073709551617", past}, {strings.Repeat("9", 5000), past},
		{strings.Repeat("0", 5000), 0}, {strings.Repeat("0", 5000) + "7", 7}, {"00001099511627776", past},
	} {
		for _, sign := range []string{"", "+", "-"} {
			exp := c.wanted
			if sign == "-" {
				exp = -exp
			}
			s := "12e" + sign + c.exp
			want(t, fmt.Sprintf("%.40s", s), numeral.General(s), api.General{Class: api.ClassNum, Digits: "12", Exp: exp + 2, Size: len(s)})
			s = "-.0012E" + sign + c.exp
			want(t, fmt.Sprintf("%.40s", s), numeral.General(s), api.General{Class: api.ClassNum, Neg: true, Digits: "12", Exp: exp - 2, Size: len(s)})
			want(t, "of 0", numeral.General("0e"+sign+c.exp), api.General{Class: api.ClassNum, Size: 2 + len(sign) + len(c.exp)})
		}
	}
}

// P3.2: the classes that are no number's, in letters small and great, the longer word if it fits.
func TestGeneralWords(t *testing.T) {
	for _, c := range []struct {
		s     string
		class api.Class
		size  int
	}{
		{"inf", api.ClassHigh, 3}, {"+inf", api.ClassHigh, 4}, {"-inf", api.ClassLow, 4}, {"INF", api.ClassHigh, 3}, {"-iNf", api.ClassLow, 4}, {" \tInf", api.ClassHigh, 5},
		{"infinity", api.ClassHigh, 8}, {"+INFINITY", api.ClassHigh, 9}, {"-inFINity", api.ClassLow, 9}, {"infinityx", api.ClassHigh, 8}, {"infinit", api.ClassHigh, 3}, {"infinitx", api.ClassHigh, 3}, {"-infinit\xd9", api.ClassLow, 4}, {"infx", api.ClassHigh, 3}, {"inf5", api.ClassHigh, 3}, {"infinf", api.ClassHigh, 3},
		{"nan", api.ClassNaN, 3}, {"NAN", api.ClassNaN, 3}, {"+NaN", api.ClassNaN, 4}, {"-nAn", api.ClassNaN, 4}, {"  -nanx", api.ClassNaN, 6}, {"nan(5)", api.ClassNaN, 3},
		{"\x49\x0e\x46", api.ClassNone, 0}, {"I.F", api.ClassNone, 0}, {"\tin", api.ClassNone, 0}, {"iınf", api.ClassNone, 0}, {"nan"[:2], api.ClassNone, 0}, {"- inf", api.ClassNone, 0}, {"--inf", api.ClassNone, 0}, {".inf", api.ClassNone, 0},
	} {
		want(t, fmt.Sprintf("General(%q)", c.s), numeral.General(c.s), api.General{Class: c.class, Size: c.size})
	}
}

// P3.3: the letters, all other bytes, and what of the text they take.
func TestHuman(t *testing.T) {
	ranks := map[byte]int{'K': 1, 'k': 1, 'M': 2, 'G': 3, 'T': 4, 'P': 5, 'E': 6, 'Z': 7, 'Y': 8, 'R': 9, 'Q': 10}
	for _, number := range []string{"5", "-5", "5.", ".5", "-0.50", " \t12.5", "0", "-0", "00.", ".0"} {
		alone := numeral.Decimal(number)
		zero := alone.Whole+alone.Frac == ""
		d, rank := numeral.Human(number)
		want(t, number, d, alone)
		want(t, number, rank, 0)
		for c := range 256 {
			s := number + string([]byte{byte(c)}) + "KK"
			if c >= '0' && c <= '9' || c == '.' {
				continue // it belongs to the number
			}
			wanted := alone
			if ranks[byte(c)] > 0 {
				wanted.Size++
			}
			d, rank := numeral.Human(s)
			want(t, fmt.Sprintf("Human(%q)", s), d, wanted)
			if zero {
				want(t, fmt.Sprintf("rank of %q", s), rank, 0)
			} else {
				want(t, fmt.Sprintf("rank of %q", s), rank, ranks[byte(c)])
			}
		}
	}
}

// P3.3: months in great and small letters, behind blanks, whatever follows.
func TestMonth(t *testing.T) {
	for i, name := range strings.Fields("jan feb mar apr may jun jul aug sep oct nov dec") {
		for great := range 8 {
			b := []byte(name)
			for k := range b {
				if great>>k&1 == 1 {
					b[k] -= 'a' - 'A'
				}
			}
			for _, head := range []string{"", " ", "\t", "\t \t "} {
				for _, tail := range []string{"", "x", "uary", " 7", "\x00", "\xff", "jan"} {
					s := head + string(b) + tail
					want(t, fmt.Sprintf("Month(%q)", s), numeral.Month(s), i+1)
				}
			}
		}
		want(t, name[:2], numeral.Month(name[:2]), 0)
		want(t, name[1:], numeral.Month(name[1:]), 0)
		// All bytes that are not the letter in one of its forms.
		for k := range 3 {
			for c := range 256 {
				s := name[:k] + string([]byte{byte(c)}) + name[k+1:]
				if m := numeral.Month(s); m == i+1 && !strings.EqualFold(s, name) {
					t.Errorf("Month(%q): %d", s, m)
				}
			}
		}
	}
	for _, s := range []string{"", " ", "x", "j", "ja", "jax", "-jan", "\njan", "\rjan", "j an", "1jan", "January"[1:], "\u017fep", "ſep", "\u212aan", "*!.", "\x0a\x01\x0e", "enero", "jaN"[:2] + "\x0e"} {
		want(t, fmt.Sprintf("Month(%q)", s), numeral.Month(s), 0)
	}
}
