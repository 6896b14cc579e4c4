package tools_test

import (
	"fmt"
	"testing"
)

// P14.10: which counts, in which order, with which names.
func TestWc(t *testing.T) {
	w := world{stdin: "one two\nthree", files: files{"a": "a b\nc\n", "e": "", "n": "\n\n"}}
	w.table(t, map[string]string{
		"wc":          "1 3 13\n",
		"wc -":        "1 3 13 -\n",
		"wc -l":       "1\n",
		"wc -w":       "3\n",
		"wc -c":       "13\n",
		"wc -cl":      "1 13\n",
		"wc -c -w":    "3 13\n",
		"wc -wl":      "1 3\n",
		"wc -cwl":     "1 3 13\n",
		"wc a":        "2 3 6 a\n",
		"wc e":        "0 0 0 e\n",
		"wc n":        "2 0 2 n\n",
		"wc a e":      "2 3 6 a\n0 0 0 e\n2 3 6 total\n",
		"wc -w a a":   "3 a\n3 a\n6 total\n",
		"wc -l n a -": "2 n\n2 a\n1 -\n5 total\n",
		"wc - -":      "1 3 13 -\n0 0 0 -\n1 3 13 total\n",
	})
}

// P14.10: words are the longest runs of bytes other than 9 to 13 and 32.
func TestWcWords(t *testing.T) {
	for c := range 256 {
		s := "a" + string([]byte{byte(c)}) + "b"
		words, lines := 1, 0
		if c == ' ' || c >= 9 && c <= 13 {
			words = 2
		}
		if c == '\n' {
			lines = 1
		}
		world{stdin: s}.words("wc").ends(t, 0, fmt.Sprintln(lines, words, 3), "")
	}
	for s, words := range map[string]int{
		"": 0, " ": 0, "a": 1, " a ": 1, "\t\n\v\f\r ": 0, "a\n": 1, "a\nb": 2, "a\n\n b \n": 2, "  aa   bb\tcc": 3, "\x00 \x00": 2, "é à": 2, "\u0085": 1, "a\u00a0b": 1, "a\u2003b": 1, "\xff\xfe \x80": 2, "\xc2 \xa0": 2, "a\x1fb": 1, "a\x0eb\x08c": 1,
	} {
		world{stdin: s}.words("wc -w").ends(t, 0, fmt.Sprintln(words), "")
	}
}
