package tools_test

import (
	"fmt"
	"strings"
	"testing"
)

// P14.9: the first lines or bytes.
func TestHead(t *testing.T) {
	ten := "1\n2\n3\n4\n5\n6\n7\n8\n9\n10\n"
	w := world{stdin: ten + "11\n12", files: files{"a": "a\n\nbc\nd", "e": "", "n": "\n"}}
	w.table(t, map[string]string{
		"head":            ten,
		"head -":          ten,
		"head -n 10":      ten,
		"head -n 11":      ten + "11\n",
		"head -n 12":      ten + "11\n12",
		"head -n 13":      ten + "11\n12",
		"head -n 0":       "",
		"head -n 1 a":     "a\n",
		"head -n 2 a":     "a\n\n",
		"head -n 4 a":     "a\n\nbc\nd",
		"head -c 0 a":     "",
		"head -c 1 a":     "a",
		"head -c 2 a":     "a\n",
		"head -c 3 a":     "a\n\n",
		"head -c 4 a":     "a\n\nb",
		"head -c 6 a":     "a\n\nbc\n",
		"head -c 7 a":     "a\n\nbc\nd",
		"head -c 8 a":     "a\n\nbc\nd",
		"head e":          "",
		"head -c 9 e":     "",
		"head -n 1 n":     "\n",
		"head -c 1 n":     "\n",
		"head a e n":      "==> a <==\na\n\nbc\nd\n==> e <==\n\n==> n <==\n\n",
		"head -n 1 a - a": "==> a <==\na\n\n==> - <==\n1\n\n==> a <==\na\n",
		"head -c 1 a a":   "==> a <==\na\n==> a <==\na",
		"head -n 0 a e":   "==> a <==\n\n==> e <==\n",
		"head -n 1 - -":   "==> - <==\n1\n\n==> - <==\n",
	})
}

// P14.9: the last lines or bytes, or those from a number on.
func TestTail(t *testing.T) {
	ten := "1\n2\n3\n4\n5\n6\n7\n8\n9\n10\n"
	w := world{stdin: "x\ny\n" + ten, files: files{"a": "a\n\nbc\nd", "e": "", "n": "\n"}}
	w.table(t, map[string]string{
		"tail":              ten,
		"tail -":            ten,
		"tail -n 11":        "y\n" + ten,
		"tail -n 12":        "x\ny\n" + ten,
		"tail -n 13":        "x\ny\n" + ten,
		"tail -n 0":         "",
		"tail -n 1 a":       "d",
		"tail -n 2 a":       "bc\nd",
		"tail -n 3 a":       "\nbc\nd",
		"tail -n 4 a":       "a\n\nbc\nd",
		"tail -n 5 a":       "a\n\nbc\nd",
		"tail -n +0 a":      "a\n\nbc\nd",
		"tail -n +1 a":      "a\n\nbc\nd",
		"tail -n +2 a":      "\nbc\nd",
		"tail -n +3 a":      "bc\nd",
		"tail -n +4 a":      "d",
		"tail -n +5 a":      "",
		"tail -n +13":       "",
		"tail -n +12":       "10\n",
		"tail -c 0 a":       "",
		"tail -c 1 a":       "d",
		"tail -c 2 a":       "\nd",
		"tail -c 3 a":       "c\nd",
		"tail -c 4 a":       "bc\nd",
		"tail -c 5 a":       "\nbc\nd",
		"tail -c 6 a":       "\n\nbc\nd",
		"tail -c 7 a":       "a\n\nbc\nd",
		"tail -c 8 a":       "a\n\nbc\nd",
		"tail -c +0 a":      "a\n\nbc\nd",
		"tail -c +1 a":      "a\n\nbc\nd",
		"tail -c +2 a":      "\n\nbc\nd",
		"tail -c +3 a":      "\nbc\nd",
		"tail -c +5 a":      "c\nd",
		"tail -c +7 a":      "d",
		"tail -c +8 a":      "",
		"tail -c +9 a":      "",
		"tail e":            "",
		"tail -c 5 e":       "",
		"tail -n +1 e":      "",
		"tail n":            "\n",
		"tail -c +1 n":      "\n",
		"tail -n 1 a e n":   "==> a <==\nd\n==> e <==\n\n==> n <==\n\n",
		"tail -n +4 a a":    "==> a <==\nd\n==> a <==\nd",
		"tail -c 1 - a -":   "==> - <==\n\n\n==> a <==\nd\n==> - <==\n",
		"tail -n 0 a e":     "==> a <==\n\n==> e <==\n",
		"tail -n 3 -c +7 a": "d",
	})
}

// P14.9: head and tail of every number take a text apart.
func TestHeadAndTail(t *testing.T) {
	for _, text := range []string{"", "\n", "a", "a\n", "\n\n", "ab\n\ncde\nf\n", "ab\n\ncde\nf", strings.Repeat("\n", 12), "\x00\n\xff\xfe\n"} {
		parts := strings.SplitAfter(text, "\n")
		if parts[len(parts)-1] == "" {
			parts = parts[:len(parts)-1]
		}
		w := world{stdin: text}
		for n := range len(text) + 3 {
			k, from := min(n, len(text)), max(n-1, 0)
			w.words(fmt.Sprint("head -c ", n)).ends(t, 0, text[:k], "")
			w.words(fmt.Sprint("tail -c ", n)).ends(t, 0, text[len(text)-k:], "")
			w.words(fmt.Sprint("tail -c +", n)).ends(t, 0, text[min(from, len(text)):], "")
			k = min(n, len(parts))
			w.words(fmt.Sprint("head -n ", n)).ends(t, 0, strings.Join(parts[:k], ""), "")
			w.words(fmt.Sprint("tail -n ", n)).ends(t, 0, strings.Join(parts[len(parts)-k:], ""), "")
			w.words(fmt.Sprint("tail -n +", n)).ends(t, 0, strings.Join(parts[min(from, len(parts)):], ""), "")
		}
	}
}
