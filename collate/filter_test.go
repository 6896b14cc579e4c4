package collate_test

import (
	"strings"
	"testing"

	"mill/api"
	"mill/collate"
)

// every is a line of all 256 bytes, rising.
func every() string {
	b := make([]byte, 256)
	for i := range b {
		b[i] = byte(i)
	}
	return string(b)
}

const (
	digitBytes = "0123456789"
	largeBytes = "ABCDEFGHIJKLMNOPQRSTUVWXYZ"
	smallBytes = "abcdefghijklmnopqrstuvwxyz"
	shownBytes = " !\"#$%&'()*+,-./" + digitBytes + ":;<=>?@" + largeBytes + "[\\]^_`" + smallBytes + "{|}~"
)

// P5.6: each byte, under each set of the modifiers that filter.
func TestFilterEveryByte(t *testing.T) {
	plainBytes := "\t " + digitBytes + largeBytes + smallBytes
	filter(t, "", every(), every())
	filter(t, "-d", every(), plainBytes)
	filter(t, "-i", every(), shownBytes)
	filter(t, "-di", every(), plainBytes)
	filter(t, "-f", every(), strings.Replace(every(), smallBytes, largeBytes, 1))
	filter(t, "-df", every(), "\t "+digitBytes+largeBytes+largeBytes)
	filter(t, "-if", every(), strings.Replace(shownBytes, smallBytes, largeBytes, 1))
	filter(t, "-dif", every(), "\t "+digitBytes+largeBytes+largeBytes)
}

// P5.6: it is of the key's span; other modifiers do not matter, and of a key of a kind of number it is told likewise.
func TestFilterOfKeys(t *testing.T) {
	filter(t, "-k2,2", "ab -c. d", " -c.")
	filter(t, "-k2d,2", "ab -c. d", " c")
	filter(t, "-k2db,2", "ab -c. d", "c")
	filter(t, "-k2fr,2", "ab -c. d", " -C.")
	filter(t, "-k9f", "ab", "")
	filter(t, "-d", "", "")
	filter(t, "-d", "-.-", "")
	for _, kind := range []string{"n", "g", "h", "M", "V"} {
		filter(t, "-k2,2f"+kind, "ab -1k\x01 d", " -1K\x01")
		filter(t, "-k2,2"+kind, "ab -1k\x01 d", " -1k\x01")
		filter(t, "-bfr"+kind, " -1k\x01 d", "-1K\x01 D")
	}
	o := order(t, "-f -k1,1 -k2,2d -k3,3i")
	for i, wanted := range []string{"A-\xFF", " b", " c-"} {
		want(t, "Filter", o.Filter("a-\xff b- c-\xff", i), wanted)
	}
}

// P5.6, P5.12: what Filter and Transform give is new memory, also where it is the line itself.
func TestFilterSharesNothing(t *testing.T) {
	for _, words := range []string{"", "-s", "-f", "-d", "-i", "-n", "-V", "-Vf", "-k1,1", "-r"} {
		o := order(t, words)
		line := strings.Clone("ab1 cd 23")
		a, b := o.Filter(line, 0), o.Filter(line, 0)
		x, y := o.Transform(line), o.Transform(line)
		apart(t, words, []block{ofText(line), ofText(a), ofText(b), ofText(x), ofText(y)})
		want(t, words, a+x, b+y)
		want(t, words, line, "ab1 cd 23")
	}
}

// P5.11: of a nil order.
func TestNilOrder(t *testing.T) {
	var o *collate.Order
	want(t, "Count", o.Count(), 0)
	for _, i := range []int{-1, 0, 1} {
		want(t, "Span", o.Span("abc", i), api.Span{})
		want(t, "Filter", o.Filter("abc", i), "")
	}
	want(t, "Keys", o.Keys("a", "b"), 0)
	want(t, "Compare", o.Compare("a", "b"), 0)
	want(t, "Transform", o.Transform("abc"), "")
	want(t, "Sort", len(o.Sort([]api.Rec{{Seq: 2, Line: "b"}, {Seq: 1, Line: "a"}})), 0)
}
