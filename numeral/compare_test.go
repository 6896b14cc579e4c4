package numeral_test

import (
	"cmp"
	"fmt"
	"math/big"
	"slices"
	"strings"
	"testing"

	"mill/api"
	"mill/numeral"
)

// rising tells that each of these groups of texts comes ahead of the next one, and that the texts of one group (divided by a bar) are alike.
func rising(t *testing.T, kind api.Mods, groups ...string) {
	t.Helper()
	for i, g := range groups {
		for k, h := range groups {
			for _, a := range strings.Split(g, "|") {
				for _, b := range strings.Split(h, "|") {
					if got, wanted := numeral.Compare(kind, a, b), cmp.Compare(i, k); got != wanted {
						t.Errorf("Compare(%d, %.60q, %.60q): %d, want %d", kind, a, b, got, wanted)
					}
				}
			}
		}
	}
}

// P3.4: ModN.
func TestCompareDecimals(t *testing.T) {
	rising(t, api.ModN,
		"-1000000000000000000000000000001", "-1000000000000000000000000000000|-01000000000000000000000000000000.0", "-100", "-99.99", "-10|-10.0|-010.|-10x", "-9.5", "-9|\t-9K",
		"-1.5|-1.50", "-1.05", "-1.049", "-1", "-.5|-0.5", "-.05",
		"0||-0|-|.|+5|x|-.0|0.000|inf|nan|- 5|--5|\n5|000K",
		".05|0.05", ".5|0.5|.500", "1|1.|01|1e9|1K", "1.049", "1.05", "1.5", "9", "9.5", "10|10.0|  10", "99.99", "100", "123456789012345678901234567890", "123456789012345678901234567890.1", "123456789012345678901234567891")
}

// P3.4: ModG.
func TestCompareGenerals(t *testing.T) {
	rising(t, api.ModG,
		"|x|-|+|.|e5|-.e5|\n5", "nan|-nan|+NaN|nanx", "-inf|-INFINITY|-infx", "-1e9999999999999999|-1e1099511627776",
		"-1e1099511627775", "-1e3|-1000|-.1e4", "-999", "-1|-1.0|-1e0|-10e-1", "-1e-3|-.001", "-1e-1099511627775", "-1e-1099511627776|-1e-9999999999999999",
		"0|-0|+0|0e99|-0.0e-99|.0", "1e-1099511627776|1e-9999999999999999", "1e-1099511627775", "1e-3|.001|+.001", "1|1e|1e+|+1|10e-1|.1e1|1x", "9.99", "10|1e1", "1e3|1000.0", "1001", "1e1099511627775", "1e1099511627776|1e99999999999999999999", "2e1099511627777|2e1099511627776", "inf|INFINITY|+inf|infx")
}

// P3.4: ModH: letters come ahead of numbers, and 0 counts as 0 whatever its letter.
func TestCompareHumans(t *testing.T) {
	rising(t, api.ModH,
		"-2Q", "-1Q|-1.0Qx", "-999R", "-1Y", "-1Z", "-1E", "-1P", "-1T", "-1G", "-2000M", "-3K|-3k", "-2.5K", "-2K", "-1000", "-1", "-.5|-0.50m",
		"0||x|0K|-0Q|K|.|+5G|0.0M|inf", ".5|0.5m", "1|1g", "1000|1000x", "2K|2k|2kK", "2.5K", "3k", "1M", "2000M", "1G", "1T", "1P", "1E|1Ex", "1Z", "1Y", "999R", "1Q", "2Q")
}

// P3.4: ModM.
func TestCompareMonths(t *testing.T) {
	rising(t, api.ModM,
		"|x|ja|13|\njan|ſep", "jan|JAN|January| \tjAn 7", "feb", "MAR", "apr", "may", "jun", "jul", "aug", "sep|sept", "oct", "nov", "dec|  DECade")
}

// P3.4: every other kind: bytewise, also where one of the five stands with another modifier.
func TestCompareBytewise(t *testing.T) {
	for _, kind := range kinds {
		if slices.Contains([]api.Mods{api.ModN, api.ModG, api.ModH, api.ModM, api.ModV}, kind) {
			continue
		}
		rising(t, kind, "", "\x00", "\x00\x00", "\x00\x01", "\x01", "\x01\x00", "\x01\x01", "\x01\x02", "\x02", "\t5", " 1", " 10", "1", "10", "9", "A", "Z", "a", "a\x00", "a\x01", "a\x02", "aa", "b", "feb", "jan", "~", "\x7f", "\x80", "é", "\xff", "\xff\x00", "\xff\xff")
	}
}

// P3.5: the ranks, the end of a run, empty runs, leading zeros.
func TestCompareVersions(t *testing.T) {
	rising(t, api.ModV, "~~", "~~a", "~", "~0|~00", "~1", "~A", "~a", "~\x00", "", "0~", "0~1", "0|00|000", "0.0|00.00|0.000", "1~", "1|01", "1A", "1a", "1.~", "1.", "1.0", "1.9|01.09", "1.10", "1.10.1", "2", "10", "123456789012345678901234567890|0123456789012345678901234567890", "123456789012345678901234567891",
		"A", "A0", "AA", "Z", "a~", "a~1", "a", "a0", "a0a", "a1|a01", "a1b2|a001b0002", "a1b10", "a2", "aA", "aa", "a\x00", "a.", "b", "z", "\x00", "\x01", "\t", " ", "/", ":", "@", "[", "`", "{", "}", "\x7f", "\x80", "é", "\xff")
}

// P3.5: the ranks of all bytes, held against each other within a run.
func TestRanks(t *testing.T) {
	order := "~"
	end := len(order)
	for _, span := range []string{"AZ", "az", "\x00/", ":@", "[`", "{}"} {
		for c := span[0]; c <= span[1]; c++ {
			order += string([]byte{c})
		}
	}
	for c := 127; c < 256; c++ {
		order += string([]byte{byte(c)})
	}
	want(t, "bytes that are no digits", len(order), 246)
	for i := range order[:end] {
		want(t, "ahead of the end", numeral.Compare(api.ModV, "7x"+order[i:i+1], "7x"), -1)
	}
	for i := range len(order) {
		for k := range len(order) {
			want(t, fmt.Sprintf("%q, %q", order[i], order[k]), numeral.Compare(api.ModV, "7x"+order[i:i+1]+"1", "7x"+order[k:k+1]+"1"), cmp.Compare(i, k))
		}
		if i >= end {
			want(t, fmt.Sprintf("%q behind the end", order[i]), numeral.Compare(api.ModV, "7x"+order[i:i+1], "7x"), 1)
		}
	}
}

// P3.4, P3.5: all pairs of many texts go as fractions and lists of ranks go.
func TestCompareAgainstTheModel(t *testing.T) {
	l := append(texts("-.05e", 3), texts("-1K.M ", 3)...)
	l = append(l, strange(600)...)
	n, g, h := make([]*big.Rat, len(l)), make([]*big.Rat, len(l)), make([]int, len(l))
	class, version := make([]api.Class, len(l)), make([][]*big.Int, len(l))
	for i, s := range l {
		n[i], g[i] = new(big.Rat), new(big.Rat)
		if d := strings.TrimLeft(modelN.FindString(s), " \t"); d != "" {
			n[i] = fraction(d)
		}
		_, rank := modelHuman(s)
		h[i] = rank * n[i].Sign()
		class[i], version[i] = modelGeneral(s).Class, modelVersion(s)
		if class[i] == api.ClassNum {
			g[i] = fraction(strings.TrimLeft(modelG.FindString(s), " \t"))
		}
	}
	for i, a := range l {
		for k, b := range l {
			general := cmp.Compare(class[i], class[k])
			if general == 0 {
				general = g[i].Cmp(g[k])
			}
			human := cmp.Or(cmp.Compare(n[i].Sign(), n[k].Sign()), cmp.Compare(h[i], h[k]), n[i].Cmp(n[k]))
			for kind, wanted := range map[api.Mods]int{
				api.ModN: n[i].Cmp(n[k]), api.ModG: general, api.ModH: human,
				api.ModM: cmp.Compare(modelMonth(a), modelMonth(b)), api.ModV: compareModelVersions(version[i], version[k]), 0: strings.Compare(a, b),
			} {
				if got := numeral.Compare(kind, a, b); got != wanted {
					t.Fatalf("Compare(%d, %q, %q): %d, want %d", kind, a, b, got, wanted)
				}
			}
		}
	}
}

// P3.6: the sign turns round with the arguments, at most 0 goes on from pair to pair, and texts that are alike compare alike with every other one.
func TestOrder(t *testing.T) {
	l := strange(150)
	l = append(l, "", "0", "-0", "1", "1.0", "1K", "1000", "-1", "-1K", "1e3", "1e-3", "inf", "-inf", "nan", "jan", "Jan7", "dec", "a1", "a01", "a~", "a", "1e2000000000000", "1e3000000000000")
	for _, kind := range kinds {
		c := make([][]int, len(l))
		for i, a := range l {
			c[i] = make([]int, len(l))
			for k, b := range l {
				c[i][k] = numeral.Compare(kind, a, b)
			}
		}
		for i := range l {
			want(t, "with itself", c[i][i], 0)
			for k := range l {
				want(t, "turned round", c[k][i], -c[i][k])
				for m := range l {
					if c[i][k] <= 0 && c[k][m] <= 0 && c[i][m] > 0 || c[i][k] == 0 && c[i][m] != c[k][m] {
						t.Fatalf("kind %d: %q, %q, %q: %d, %d, %d", kind, l[i], l[k], l[m], c[i][k], c[k][m], c[i][m])
					}
				}
			}
		}
	}
}
