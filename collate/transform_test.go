package collate_test

import (
	"math/rand"
	"strings"
	"testing"

	"mill/api"
	"mill/collate"
)

// embeds holds Transform of all pairs of lines against Compare, and each one's length against the bound.
func embeds(t *testing.T, what string, o *collate.Order, lines []string) {
	t.Helper()
	forms := make([]string, len(lines))
	for i, line := range lines {
		forms[i] = o.Transform(line)
		if most := (o.Count() + 1) * (8*len(line) + 128); len(forms[i]) > most {
			t.Errorf("%s: Transform(%.40q) has %d bytes, at most %d", what, line, len(forms[i]), most)
		}
	}
	for i, a := range lines {
		for k, b := range lines {
			if got, wanted := strings.Compare(forms[i], forms[k]), o.Compare(a, b); got != wanted {
				t.Errorf("%s: Transforms of %.40q, %.40q: %d, want %d", what, a, b, got, wanted)
				return
			}
		}
	}
}

// P5.10: of all the orders, for all pairs of lines of all kinds.
func TestTransform(t *testing.T) {
	lines := append(someLines(), texts("a\x00\x01\xff ", 3)...)
	for _, words := range manyOrders {
		embeds(t, words, order(t, words), lines)
	}
}

// P5.10: lines on which what is laid one behind the other could run into each other: one key's bytes end where the next one's go on.
func TestTransformKeysApart(t *testing.T) {
	lines := texts("a,\x00\x01\xff", 5)
	o := order(t, "-t, -k1,1 -k2,2r -k3,3f -s")
	r := rand.New(rand.NewSource(10))
	some := make([]string, 1200)
	for i := range some {
		some[i] = lines[r.Intn(len(lines))]
	}
	embeds(t, "text", o, some)
	numbers := texts("1,0-.", 5)
	for _, words := range []string{"-t, -k1,1n -k2,2nr -k3,3n", "-t, -k1,1V -k2,2V -k3r", "-t, -k1,1gr -k2,2hr", "-t, -k1,1r -k2,2n -u"} {
		for i := range some {
			some[i] = numbers[r.Intn(len(numbers))]
		}
		embeds(t, words, order(t, words), some)
	}
}

// P5.10: lines that differ late, and lines whose embedding is as long as it can be.
func TestTransformLongLines(t *testing.T) {
	long := strings.Repeat("a", 3000)
	lines := []string{
		long, long + "\x00", long + "\x01", long + "b", long[1:], strings.Repeat("\x00", 3000), strings.Repeat("\x01", 3000), strings.Repeat("\x00", 2999) + "\x01", strings.Repeat("\xff", 3000),
		strings.Repeat("9", 3000), strings.Repeat("9", 2999) + "8", "-" + strings.Repeat("9", 3000), "." + strings.Repeat("0", 2999) + "1", "0." + strings.Repeat("0", 3000) + "1", "1e99999999999999", "1e-99999999999999", "-1e99999999999999",
		strings.Repeat("1a", 1500), strings.Repeat("a1", 1500), strings.Repeat("a0", 1500), strings.Repeat("1~", 1500), strings.Repeat(",", 3000), strings.Repeat(" ", 3000), strings.Repeat(" a", 1500), "",
	}
	for _, words := range manyOrders {
		embeds(t, words, order(t, words), lines)
	}
}

// P5.10: of orders and lines that are drawn.
func TestTransformDrawn(t *testing.T) {
	r := rand.New(rand.NewSource(11))
	for i := range 300 {
		o := anyOptions(r)
		embeds(t, "drawn", made(t, o), strange(int64(1000+i), 60))
		if t.Failed() {
			t.Logf("%+v", o)
			return
		}
	}
}

// R5: an embedding hangs on the options and the line alone.
func TestTransformOfTwoOrders(t *testing.T) {
	o, p := order(t, "-k2,2n -k1r"), order(t, "-k2,2n -k1r")
	p.Transform("other lines")
	p.Sort([]api.Rec{{Line: "x"}, {Line: "y"}})
	for _, line := range someLines() {
		want(t, "Transform", o.Transform(line), p.Transform(line))
	}
}
