package tools_test

import (
	"strings"
	"testing"

	"mill/api"
)

// P14.11: groups, and which of them go out.
func TestUniq(t *testing.T) {
	w := world{stdin: "a\na\nb\nc\nc\nc\na", files: files{"e": "", "bare": "x\nx", "n": "\n\n \n", "one": "x\n"}}
	w.table(t, map[string]string{
		"uniq":         "a\nb\nc\na\n",
		"uniq -":       "a\nb\nc\na\n",
		"uniq -d":      "a\nc\n",
		"uniq -u":      "b\na\n",
		"uniq -du":     "",
		"uniq -c":      "      2 a\n      1 b\n      3 c\n      1 a\n",
		"uniq -cd":     "      2 a\n      3 c\n",
		"uniq -cu":     "      1 b\n      1 a\n",
		"uniq -cud":    "",
		"uniq e":       "",
		"uniq -c e":    "",
		"uniq bare":    "x\n",
		"uniq -c bare": "      2 x\n",
		"uniq n":       "\n \n",
		"uniq -c n":    "      2 \n      1  \n",
		"uniq -u one":  "x\n",
		"uniq -d one":  "",
	})
	many := world{stdin: strings.Repeat("\n", 1000000) + strings.Repeat("x\n", 9999999-1000000)}.words("uniq -c")
	many.ends(t, 0, "1000000 \n8999999 x\n", "")
	many.input(strings.Repeat("\n", 10000000)).ends(t, 0, "10000000 \n", "")
}

// P14.11: what is compared; the first line of a group goes out, whole.
func TestUniqCompares(t *testing.T) {
	for _, x := range []struct{ in, words, out string }{
		{"1 x\n2 x\n3 y\n", "-f 1", "1 x\n3 y\n"},
		{"1 x\n2  x\n3 x\n", "-f 1", "1 x\n2  x\n3 x\n"},
		{" 1 x\n2 x\n\t 3 x\n", "-f 1", " 1 x\n"},
		{"1\tx\n1 x\n", "-f 1", "1\tx\n1 x\n"},
		{"a b c\nx y c\nx y d\n", "-f 2", "a b c\nx y d\n"},
		{"a\nb\n\n \n\t\t\nb c\n", "-f 1", "a\nb c\n"},
		{"a b\nc d\ne\n\n", "-f 2", "a b\n"},
		{"a b \nc d\n", "-f 2", "a b \nc d\n"},
		{"a b \nc d \n", "-f 3", "a b \n"},
		{"a \nb\n", "-f 1", "a \nb\n"},
		{"  \n", "-c -f 9", "      1   \n"},
		{"axx\nbxx\nbxy\n", "-s 1", "axx\nbxy\n"},
		{"ab\ncd\ne\n\nabc\n", "-s 2", "ab\nabc\n"},
		{"1 ax\n2 bx\n3 by\n", "-f 1 -s 2", "1 ax\n3 by\n"},
		{"1 x\n2\n", "-f 1 -s 2", "1 x\n"},
		{"abx\naby\nacz\n", "-w 2", "abx\nacz\n"},
		{"a\nab\n", "-w 2", "a\nab\n"},
		{"a\nb\nc\n", "-w 0", "a\n"},
		{"1 xab\n2 yac\n3 yad\n4 ybc\n", "-f 1 -s 2 -w 1", "1 xab\n4 ybc\n"},
		{"a\nA\nb\nB\nB\n", "-i", "a\nb\n"},
		{"A\na\n", "-i", "A\n"},
		{"a\nA\n", "", "a\nA\n"},
		{"é\nÉ\n", "-i", "é\nÉ\n"},
		{"k\n\u212a\n", "-i", "k\n\u212a\n"},
		{"[\n{\n@\n`\n", "-i", "[\n{\n@\n`\n"},
		{"AZ\naz\n", "-i", "AZ\n"},
		{"\xc1\n\xe1\n", "-i", "\xc1\n\xe1\n"},
		{"1 A\n2 a\n3 b\n", "-if 1", "1 A\n3 b\n"},
		{"Ax\naY\n", "-iw 1", "Ax\n"},
		{"a\x00b\na\x00c\n", "", "a\x00b\na\x00c\n"},
		{"a\rb\nc\rb\n", "-f 1", "a\rb\n"},
		{"a\vb c\nd\ve c\n", "-f 1", "a\vb c\n"},
	} {
		world{stdin: x.in}.words("uniq "+x.words).ends(t, 0, x.out, "")
	}
}

// P14.11: the second operand is written, whatever its name; what goes out does not go out otherwise.
func TestUniqSecondOperand(t *testing.T) {
	w := world{stdin: "a\na\nb", files: files{"in": "x\nx\n", "old": "something long\n"}}
	for _, x := range []struct{ words, name, data string }{
		{"uniq - new", "new", "a\nb\n"},
		{"uniq in new", "new", "x\n"},
		{"uniq -c in new", "new", "      2 x\n"},
		{"uniq in old", "old", "x\n"},
		{"uniq -u in old", "old", ""},
		{"uniq in -", "-", "x\n"},
		{"uniq - -", "-", "a\nb\n"},
		{"uniq -- in -c", "-c", "x\n"},
	} {
		r := w.words(x.words).run(t, api.FsConfig{})
		want(t, x.words+": files", r.files, w.files.with(x.name, x.data).String())
		want(t, x.words+": put out", r.out, "")
		want(t, x.words+": diagnostics", r.errs, "")
		want(t, x.words+": status", r.status, 0)
		want(t, x.words+": left open", r.stats.Open, 0)
	}
	w.words("uniq in in").ends(t, 1, "", "uniq: in: errno 13\n")
	w.words("uniq in ''").ends(t, 1, "", "uniq: : errno 10\n")
	w.words("uniq none new").ends(t, 1, "", "uniq: none: errno 12\n")
	w.words("uniq in ''").calls(t, "open open write close")
	w.words("uniq in ''").stopsAt(t, 1)
}

// stopsAt tells that an interrupt at a call ends the run.
func (w world) stopsAt(t *testing.T, call int) {
	t.Helper()
	want(t, "status", w.run(t, api.FsConfig{Interrupt: call}).status, 130)
}
