package tools_test

import (
	"fmt"
	"strings"
	"testing"
)

// P14.14: pairs, and lines without a partner.
func TestJoin(t *testing.T) {
	w := world{stdin: "1 p\n1 q\n2 r\n4 s", files: files{"x": "1 a\n3 c\n4\n", "e": "", "y": "1 a b\n1 c d\n", "sp": "  1   a \tb  \n\n"}}
	w.table(t, map[string]string{
		"join x -":                "1 a p\n1 a q\n4 s\n",
		"join - x":                "1 p a\n1 q a\n4 s\n",
		"join y -":                "1 a b p\n1 a b q\n1 c d p\n1 c d q\n",
		"join - y":                "1 p a b\n1 p c d\n1 q a b\n1 q c d\n",
		"join y y":                "1 a b a b\n1 a b c d\n1 c d a b\n1 c d c d\n",
		"join -a 1 x -":           "1 a p\n1 a q\n3 c\n4 s\n",
		"join -a 2 x -":           "1 a p\n1 a q\n2 r\n4 s\n",
		"join -a1 -a2 x -":        "1 a p\n1 a q\n2 r\n3 c\n4 s\n",
		"join -v 1 x -":           "3 c\n",
		"join -v 2 x -":           "2 r\n",
		"join -v 1 -v 2 x -":      "2 r\n3 c\n",
		"join -v 2 -v 1 x -":      "2 r\n3 c\n",
		"join -a 1 -v 2 x -":      "2 r\n3 c\n",
		"join -v 1 -a 1 x -":      "3 c\n",
		"join -a 2 -v 1 x -":      "2 r\n3 c\n",
		"join x e":                "",
		"join e x":                "",
		"join -a 1 x e":           "1 a\n3 c\n4\n",
		"join -a 2 x e":           "",
		"join -v 2 e x":           "1 a\n3 c\n4\n",
		"join e e":                "",
		"join -a 1 -a 2 e e":      "",
		"join sp -":               "1 a b p\n1 a b q\n",
		"join -a 1 sp e":          "1 a b\n\n",
		"join -1 2 -2 2 -a 1 x y": "a 1 1 b\nc 3 1 d\n 4\n",
	})
}

// P14.14: keys and fields.
func TestJoinFields(t *testing.T) {
	for _, x := range []struct{ a, b, words, out string }{
		{"k 1\n", "2 k\n", "-2 2", "k 1 2\n"},
		{"1 k 3\n", "k 2\n", "-1 2", "k 1 3 2\n"},
		{"1 2 k\n", "k\n", "-1 3", "k 1 2\n"},
		{"a\n", "b\n", "-1 2 -2 2", " a b\n"},
		{"a b\n", "c\n", "-1 9 -2 2", " a b c\n"},
		{"a\n", "b\n", "-1 2147483647 -2 99999999999", " a b\n"},
		{"\n", "\n", "", "\n"},
		{"\n", "x\n", "-a 1 -a 2", "\nx\n"},
		{"a b\n", "a c\n", "-1 1 -1 2 -a 1 -a 2", "a c\nb a\n"},
		{"a,1\n", "a,2,,3\n", "-t ,", "a,1,2,,3\n"},
		{",1\n", ",2\n", "-t ,", ",1,2\n"},
		{"\n", ",2\n", "-t ,", ",2\n"},
		{"\n", "\n", "-t ,", "\n"},
		{"x\n", "y\n", "-t , -1 2 -2 3", ",x,y\n"},
		{"\n", "y\n", "-t , -1 2 -2 2", ",,y\n"},
		{"a b,1\n", "a b,2\n", "-t ,", "a b,1,2\n"},
		{"a b\n", "a  c\n", "-t ,", ""},
		{"a,1\n", "a,2\n", "-t ;", ""},
		{"a,1\n", "a;2\n", "-t , -t ;", ""},
		{"a;1\n", "a;2\n", "-t , -t ;", "a;1;2\n"},
		{"a\xff1\n", "a\xff2\n", "-t \xff", "a\xff1\xff2\n"},
		{"a,1,\n", "a,2,\n", "-t ,", "a,1,,2,\n"},
		{"ab1\n", "ab2\n", "-t b", "ab1b2\n"},
		{"\ta\t1 \n", "a  2\n", "", "a 1 2\n"},
		{"a\x00b 1\n", "a\x00b 2\n", "", "a\x00b 1 2\n"},
		{"a\v1\n", "a 2\n", "", ""},
		{"é \xff\n", "é \xfe\n", "", "é \xff \xfe\n"},
		{"A 1\n", "a 2\n", "", ""},
		{"01 1\n", "1 2\n", "", ""},
		{"a", "a", "", "a\n"},
		{"a 1", "a 2", "", "a 1 2\n"},
	} {
		w := world{stdin: x.b, files: files{"a": x.a}}
		w.argv = append(append([]string{"join"}, strings.Fields(x.words)...), "a", "-")
		w.ends(t, 0, x.out, "")
	}
	w := world{stdin: "a b\t2\n", files: files{"a": "a b\t1\n"}}
	w.argv = []string{"join", "-t", "\t", "a", "-"}
	w.ends(t, 0, "a b\t1\t2\n", "")
	w.argv = []string{"join", "-t", " ", "a", "-"}
	w.ends(t, 0, "a b\t1 b\t2\n", "")
	w.argv = []string{"join", "-t\n", "a", "-"}
	w.ends(t, 0, "", "")
	w.argv = []string{"join", "-t\n", "a", "a"}
	w.ends(t, 0, "a b\t1\n", "")
	w.argv = []string{"join", "-t", "\x00", "-a", "1", "a", "-"}
	w.ends(t, 0, "a b\t1\n", "")
}

// P14.14: files that are not sorted are gone through all the same; neighbouring lines make a group.
func TestJoinUnsorted(t *testing.T) {
	w := world{stdin: "a 1\nc 2\nb 3\nb 4\na 5\n", files: files{"x": "a x\nb y\nb z\na w\n"}}
	w.words("join x -").ends(t, 0, "a x 1\n", "")
	w.words("join -a 1 -a 2 x -").ends(t, 0, "a x 1\nb y\nb z\na w\nc 2\nb 3\nb 4\na 5\n", "")
	w.words("join -a 1 -a 2 - x").ends(t, 0, "a 1 x\nb y\nb z\na w\nc 2\nb 3\nb 4\na 5\n", "")
	w = world{stdin: "b\na\n", files: files{"x": "b\na\nb\n"}}
	w.words("join -a 1 x -").ends(t, 0, "b\na\nb\n", "")
}

// P14.14: of which file a line is asked for, and when: a group of file 1 first, then that of file 2.
func TestJoinAsks(t *testing.T) {
	w := world{files: files{"a": "1\n3\n3\n4\n", "b": "2\n3\n5\n"}}
	plan := readRefused(1)
	whose := "-abab" + "aa" + "b" + "a" + "b"
	all := []string{"", "", "", "1\n", "1\n2\n", "1\n2\n", "1\n2\n", "1\n2\n", "1\n2\n3\n3\n4\n", "1\n2\n3\n3\n4\n5\n"}
	for nth := 1; nth < len(whose); nth++ {
		plan.Faults[0].Nth = nth
		r := w.words("join -a 1 -a 2 a b").run(t, plan)
		what := fmt.Sprintf("Read %d refused", nth)
		want(t, what, r.out, all[nth])
		want(t, what+": diagnostics", r.errs, "join: "+whose[nth:nth+1]+": errno 3\n")
		want(t, what+": status", r.status, 1)
	}
	plan.Faults[0].Nth = len(whose)
	want(t, "no Read is left", w.words("join -a 1 -a 2 a b").run(t, plan).status, 0)
	// Lines are asked for though nothing goes out of them.
	w.words("join -v 2 a b").calls(t, "open open read read read read close close write")
	w.files = files{"a": "", "b": strings.Repeat("x\n", 5000)}
	w.words("join a b").calls(t, "open open read read read read read close close")
}

// A line of many fields, and groups of many lines.
func TestJoinMuch(t *testing.T) {
	many := strings.Repeat(" f", 30000)
	w := world{stdin: "k" + many + "\n", files: files{"a": "k 1\n", "g": strings.Repeat("k\n", 300)}}
	w.words("join a -").ends(t, 0, "k 1"+many+"\n", "")
	w.words("join -2 30001 a -").ends(t, 0, "", "")
	w.words("join g g").ends(t, 0, strings.Repeat("k\n", 90000), "")
}
