package sortcmd_test

import (
	"fmt"
	"math"
	"strings"
	"testing"
	"unsafe"

	"mill/api"
	"mill/sortcmd"
)

// told is the chapter's table, by numbers.
const told = `
3 device error
4 no power
5 interrupted
10 bad name
11 file exists
12 no such file
13 file is open
14 too many files
15 too many open files
18 no space left
22 line too long
40 unknown option
41 option needs a value
42 option takes no value
43 bad key
44 bad number
45 bad field separator
46 options do not go together
47 ambiguous option
48 modifiers do not go together
49 bad operand
71 temporary file torn
72 temporary file spoilt
111 no free name
112 bad checkpoint
113 checkpoint of another job
`

// textOf looks an error up in the table.
func textOf(e api.Errno) string {
	for _, line := range strings.Split(told, "\n") {
		if text, ok := strings.CutPrefix(line, fmt.Sprintf("%d ", e)); ok {
			return text
		}
	}
	return fmt.Sprintf("error %d", e)
}

// nameOf gives a name byte by byte.
func nameOf(s string) string {
	named := ""
	for i := range len(s) {
		switch c := s[i]; {
		case c == '\\':
			named += `\\`
		case c >= ' ' && c <= '~':
			named += string(rune(c))
		default:
			named += fmt.Sprintf(`\x%02x`, c)
		}
	}
	return named
}

// P13.1: each error, by itself and about something.
func TestDiagnose(t *testing.T) {
	want(t, "of OK", sortcmd.Diagnose(api.OK, ""), "")
	want(t, "of OK, about something", sortcmd.Diagnose(api.OK, "a"), "")
	for e := api.Errno(-300); e <= 2000; e++ {
		if e == api.OK {
			continue
		}
		what := fmt.Sprintf("Diagnose(%d)", e)
		want(t, what, sortcmd.Diagnose(e, ""), "sort: "+textOf(e))
		want(t, what+", about something", sortcmd.Diagnose(e, "a file"), "sort: "+textOf(e)+": a file")
		want(t, what+", about bytes", sortcmd.Diagnose(e, "\\\x00"), "sort: "+textOf(e)+`: \\\x00`)
	}
	want(t, "a great number", sortcmd.Diagnose(math.MaxInt, ""), "sort: error 9223372036854775807")
	want(t, "the least number", sortcmd.Diagnose(math.MinInt, "x"), "sort: error -9223372036854775808: x")
}

// P13.1: how a name is told: each byte, and several.
func TestNames(t *testing.T) {
	for c := range 256 {
		name := string([]byte{byte(c)})
		want(t, "one byte", sortcmd.Diagnose(api.ErrMissing, name), "sort: no such file: "+nameOf(name))
		name = "x" + name + name + "y"
		want(t, "bytes among others", sortcmd.Diagnose(api.ErrMissing, name), "sort: no such file: "+nameOf(name))
	}
	for name, wanted := range map[string]string{
		" ": " ", "~": "~", "\x7f": `\x7f`, "\x1f": `\x1f`, "\t\r\n": `\x09\x0d\x0a`, `\x0a`: `\\x0a`, `\`: `\\`, "ä": `\xc3\xa4`, "\xff\xfe": `\xff\xfe`, "-": "-", ": ": ": ", "\x80": `\x80`, "�": `\xef\xbf\xbd`,
	} {
		want(t, "by hand", sortcmd.Diagnose(api.ErrOption, name), "sort: unknown option: "+wanted)
		want(t, "by hand, of Disorder", sortcmd.Disorder(api.JobStats{File: name, Line: name, At: 7}), "sort: "+wanted+":7: disorder: "+wanted)
	}
}

// P13.2: the line of a check.
func TestDisorder(t *testing.T) {
	for _, x := range []struct {
		stats  api.JobStats
		wanted string
	}{
		{api.JobStats{}, "sort: :0: disorder: "},
		{api.JobStats{File: "a", At: 2, Line: "b"}, "sort: a:2: disorder: b"},
		{api.JobStats{File: "-", At: 10, Line: ""}, "sort: -:10: disorder: "},
		{api.JobStats{File: "a:b c", At: 1048577, Line: " x: y "}, "sort: a:b c:1048577: disorder:  x: y "},
		{api.JobStats{File: "\n", At: math.MaxInt, Line: "one\ntwo\\"}, `sort: \x0a:9223372036854775807: disorder: one\x0atwo\\`},
		{api.JobStats{File: "a", At: -1, Line: "\x00"}, `sort: a:-1: disorder: \x00`},
		// What else was counted is not told.
		{api.JobStats{Lines: 9, Resident: 8, Runs: 7, Passes: 6, Out: 5, At: 4, Line: "l", File: "f", Resumed: true}, "sort: f:4: disorder: l"},
	} {
		want(t, fmt.Sprintf("Disorder(%+v)", x.stats), sortcmd.Disorder(x.stats), x.wanted)
	}
	long := strings.Repeat("x\n", api.MaxLine/2)
	want(t, "a long line", sortcmd.Disorder(api.JobStats{File: "a", At: 2, Line: long}), "sort: a:2: disorder: "+strings.Repeat(`x\x0a`, api.MaxLine/2))
}

// R4: each answer is new memory.
func TestTextsAreNew(t *testing.T) {
	shared := func(a, b string) bool { return unsafe.StringData(a) == unsafe.StringData(b) }
	name := strings.Clone("a file")
	for e := api.Errno(1); e < 130; e++ {
		for _, about := range []string{"", name} {
			want(t, fmt.Sprintf("Diagnose(%d, %q) shares", e, about), shared(sortcmd.Diagnose(e, about), sortcmd.Diagnose(e, about)), false)
		}
	}
	s := api.JobStats{File: name, Line: name}
	want(t, "Disorder shares", shared(sortcmd.Disorder(s), sortcmd.Disorder(s)), false)
}
