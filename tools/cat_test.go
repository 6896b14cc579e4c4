package tools_test

import (
	"fmt"
	"strings"
	"testing"
)

// table runs words that say how they end with status 0.
func (w world) table(t *testing.T, l map[string]string) {
	t.Helper()
	for words, out := range l {
		w.words(words).ends(t, 0, out, "")
	}
}

// P14.8: files one behind the other, as they are.
func TestCat(t *testing.T) {
	w := world{stdin: "in", files: files{"a": "1\n2\n", "bare": "x\ny", "e": "", "n": "\n", "nn": "\n\n\n", "odd": "\x00\xff\r\n\té\x00"}}
	w.table(t, map[string]string{
		"cat":             "in",
		"cat -":           "in",
		"cat a":           "1\n2\n",
		"cat a a":         "1\n2\n1\n2\n",
		"cat bare a":      "x\ny1\n2\n",
		"cat bare bare":   "x\nyx\ny",
		"cat a - bare":    "1\n2\ninx\ny",
		"cat - -":         "in",
		"cat e":           "",
		"cat e n e":       "\n",
		"cat odd":         "\x00\xff\r\n\té\x00",
		"cat odd odd":     "\x00\xff\r\n\té\x00\x00\xff\r\n\té\x00",
		"cat -s n":        "\n",
		"cat -s nn":       "\n",
		"cat -s nn nn n":  "\n\n\n",
		"cat -s odd bare": "\x00\xff\r\n\té\x00x\ny",
		"cat -n bare a":   "     1\tx\n     2\ty     3\t1\n     4\t2\n",
		"cat -n e n":      "     1\t\n",
		"cat -n nn nn":    "     1\t\n     2\t\n     3\t\n     4\t\n     5\t\n     6\t\n",
		"cat -ns nn nn":   "     1\t\n     2\t\n",
		"cat -n - - a":    "     1\tin     2\t1\n     3\t2\n",
		"cat -ns odd":     "     1\t\x00\xff\r\n     2\t\té\x00",
	})
}

// P14.8: of neighbouring empty lines the first; those of blanks are not empty.
func TestCatSqueezes(t *testing.T) {
	w := world{stdin: "\n\na\n\n\n\nb\nc\n\nd\n \n\n\n\t\n\n\r\n\n\n", files: files{"a": "\n\nx\n\n"}}
	w.table(t, map[string]string{
		"cat -s":     "\na\n\nb\nc\n\nd\n \n\n\t\n\n\r\n\n",
		"cat -s a a": "\nx\n\n\nx\n\n",
		"cat -s a -": "\nx\n\n\na\n\nb\nc\n\nd\n \n\n\t\n\n\r\n\n",
		"cat -sn a":  "     1\t\n     2\tx\n     3\t\n",
	})
}

// P14.8: a number stands right in six columns, or in more.
func TestCatNumbers(t *testing.T) {
	const many = 100001
	w := world{stdin: strings.Repeat("\n", many) + "end"}
	var b strings.Builder
	for i := range many {
		fmt.Fprintf(&b, "%6d\t\n", i+1)
	}
	out := b.String() + "100002\tend"
	if !strings.Contains(out, "\n     9\t\n    10\t\n") || !strings.Contains(out, "\n 99999\t\n100000\t\n") {
		t.Fatal("what is wanted is not as it must be")
	}
	w.words("cat -n").ends(t, 0, out, "")
	more := strings.Repeat("\n", 999999)
	r := world{stdin: more, files: files{"a": "a\nb\n"}}.words("cat -n - a")
	r.outRoom = 0
	got := r.on(r.system(t, r.room)).out
	want(t, "in seven columns", strings.HasSuffix(got, "\n999999\t\n1000000\ta\n1000001\tb\n"), true)
}
