package tools_test

import "testing"

// P14.13: columns.
func TestComm(t *testing.T) {
	w := world{stdin: "b\nc\nd", files: files{"x": "a\nb\nd\n", "e": "", "n": "\n", "twice": "a\na\nb\nb\nb\n", "unsorted": "b\na\nc\n", "bytes": "A\nB\xff\na\né\n"}}
	w.table(t, map[string]string{
		"comm x -":        "a\n\t\tb\n\tc\n\t\td\n",
		"comm - x":        "\ta\n\t\tb\nc\n\t\td\n",
		"comm -1 x -":     "\tb\nc\n\td\n",
		"comm -2 x -":     "a\n\tb\n\td\n",
		"comm -3 x -":     "a\n\tc\n",
		"comm -12 x -":    "b\nd\n",
		"comm -13 x -":    "c\n",
		"comm -23 x -":    "a\n",
		"comm -123 x -":   "",
		"comm -2 -1 x -":  "b\nd\n",
		"comm x x":        "\t\ta\n\t\tb\n\t\td\n",
		"comm x e":        "a\nb\nd\n",
		"comm e x":        "\ta\n\tb\n\td\n",
		"comm -1 e x":     "a\nb\nd\n",
		"comm e e":        "",
		"comm n e":        "\n",
		"comm e n":        "\t\n",
		"comm n n":        "\t\t\n",
		"comm n x":        "\n\ta\n\tb\n\td\n",
		"comm twice x":    "\t\ta\na\n\t\tb\nb\nb\n\td\n",
		"comm unsorted x": "\ta\n\t\tb\na\nc\n\td\n",
		"comm x unsorted": "a\n\t\tb\n\ta\n\tc\nd\n",
		"comm bytes x":    "A\nB\xff\n\t\ta\n\tb\n\td\né\n",
		"comm -- x -":     "a\n\t\tb\n\tc\n\t\td\n",
	})
}

// P14.13: lines are compared by their bytes, the shorter one first.
func TestCommOrder(t *testing.T) {
	for _, x := range []struct{ a, b, out string }{
		{"a\n", "ab\n", "a\n\tab\n"}, {"ab\n", "a\n", "\ta\nab\n"}, {"\n", "\x00\n", "\n\t\x00\n"}, {"\x7f\n", "\x80\n", "\x7f\n\t\x80\n"}, {"\xff\n", "a\n", "\ta\n\xff\n"}, {"B\n", "a\n", "B\n\ta\n"}, {"10\n", "9\n", "10\n\t9\n"}, {" a\n", "a\n", " a\n\ta\n"}, {"a", "a\n", "\t\ta\n"}, {"a\n", "a", "\t\ta\n"}, {"a", "b", "a\n\tb\n"},
	} {
		world{stdin: x.b, files: files{"a": x.a}}.words("comm a -").ends(t, 0, x.out, "")
	}
}

// P14.13: of which file a line is asked for, and when.
func TestCommAsks(t *testing.T) {
	w := world{files: files{"a": "1\n3\n4\n", "b": "2\n3\n5\n"}}
	for _, x := range []struct {
		nth int
		out string
	}{
		{1, ""}, {2, ""}, // the first ones of a and b
		{3, "1\n"}, {4, "1\n\t2\n"}, // a behind 1, b behind 2
		{5, "1\n\t2\n\t\t3\n"}, {6, "1\n\t2\n\t\t3\n"}, // both behind 3
		{7, "1\n\t2\n\t\t3\n4\n"}, {8, "1\n\t2\n\t\t3\n4\n\t5\n"}, // the ends
	} {
		r := w.words("comm a b").run(t, readRefused(x.nth))
		want(t, "put out", r.out, x.out)
		want(t, "status", r.status, 1)
		want(t, "diagnostics", r.errs, "comm: "+"ba"[x.nth%2:x.nth%2+1]+": errno 3\n")
	}
	// With no more lines of a, none is asked for any more, though lines of b are.
	w.files = files{"a": "1\n", "b": "0\n1\n2\n3\n"}
	w.words("comm -123 a b").calls(t, "open open read read read read close close")
}
