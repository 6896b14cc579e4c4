package tools_test

import (
	"strings"
	"testing"
)

// P14.15: bytes, by each kind of list.
func TestCutBytes(t *testing.T) {
	w := world{stdin: "abcdef\n\nxy\n\xffé", files: files{"a": "12345"}}
	w.table(t, map[string]string{
		"cut -b 1":                        "a\n\nx\n\xff\n",
		"cut -c 1":                        "a\n\nx\n\xff\n",
		"cut -b 2-3":                      "bc\n\ny\né\n",
		"cut -b 3":                        "c\n\n\n\xa9\n",
		"cut -b 1- -":                     "abcdef\n\nxy\n\xffé\n",
		"cut -b 5-":                       "ef\n\n\n\n",
		"cut -b -2":                       "ab\n\nxy\n\xff\xc3\n",
		"cut -b 3,1 a":                    "13\n",
		"cut -b 1,1,1 a":                  "1\n",
		"cut -b 2-4,3-5 a":                "2345\n",
		"cut -b 2-3,3-4 a":                "234\n",
		"cut -b 2-5,3 a":                  "2345\n",
		"cut -b 1-2,4-5 a":                "1245\n",
		"cut -b 4-,2- a":                  "2345\n",
		"cut -b -1,3,5- a":                "135\n",
		"cut -b 5,4,3,2,1 a":              "12345\n",
		"cut -b 1-1 a":                    "1\n",
		"cut -b 001-0002 a":               "12\n",
		"cut -b 5-99 a":                   "5\n",
		"cut -b 6 a":                      "\n",
		"cut -b 6- a":                     "\n",
		"cut -b 2147483647 a":             "\n",
		"cut -b 1-2147483647 a":           "12345\n",
		"cut -b 1-99999999999999999999 a": "12345\n",
		"cut -b 99999999999999999999-88888888888888888888 a": "\n",
		"cut -c 1 a a":        "1\n1\n",
		"cut -b 1,3-4 -b 2 a": "2\n",
		"cut -b2-3 a":         "23\n",
		"cut -c -3 a":         "123\n",
	})
	list := "1"
	for range 3000 {
		list += ",3,2-4,70000-,5-5"
	}
	w.argv = []string{"cut", "-b", list, "a"}
	w.ends(t, 0, "12345\n", "")
}

// P14.15: fields.
func TestCutFields(t *testing.T) {
	w := world{stdin: "a\tb\tc\nd\n\n\te\n", files: files{"c": "1,2,,4\n,\nx\n", "bare": "1,2"}}
	w.table(t, map[string]string{
		"cut -f 1":              "a\nd\n\n\n",
		"cut -f 2":              "b\nd\n\ne\n",
		"cut -f 2-":             "b\tc\nd\n\ne\n",
		"cut -f 3,1":            "a\tc\nd\n\n\n",
		"cut -f 9":              "\nd\n\n\n",
		"cut -f -9":             "a\tb\tc\nd\n\n\te\n",
		"cut -s -f 1":           "a\n\n",
		"cut -f 2 -s":           "b\ne\n",
		"cut -f 9 -s":           "\n\n",
		"cut -d , -f 1 c":       "1\n\nx\n",
		"cut -d , -f 2,4 c":     "2,4\n\nx\n",
		"cut -d , -f 3 c":       "\n\nx\n",
		"cut -d , -f 1- c":      "1,2,,4\n,\nx\n",
		"cut -d , -f 2-3 c":     "2,\n\nx\n",
		"cut -d , -s -f 1,2 c":  "1,2\n,\n",
		"cut -d , -f 3 -s c":    "\n\n",
		"cut -d x -f 1 c":       "1,2,,4\n,\n\n",
		"cut -d x -f 1,2 c":     "1,2,,4\n,\nx\n",
		"cut -d , -f 2 bare":    "2\n",
		"cut -d ; -f 2 bare":    "1,2\n",
		"cut -d ; -s -f 2 bare": "",
		"cut -f 1 bare c":       "1,2\n1,2,,4\n,\nx\n",
		"cut -d 2 -f 1 bare":    "1,\n",
		"cut -d - -f 1 bare":    "1,2\n",
	})
	for _, x := range []struct{ tab, in, out string }{
		{"\n", "a b\nc\n", "a b\nc\n"}, {"\x00", "a\x00b\n", "a\n"}, {"\xff", "a\xffb\n", "a\n"}, {" ", "a  b\n", "a\n"}, {"\xc3", "é\xc3\n", "\n"}, {"\t", "a\tb\n", "a\n"},
	} {
		w := world{argv: []string{"cut", "-f1", "-d", x.tab}, stdin: x.in}
		w.ends(t, 0, x.out, "")
	}
	w = world{stdin: strings.Repeat("f,", 30000) + "\n"}.words("cut -d , -f 30001-,30000,1")
	w.ends(t, 0, "f,f,\n", "")
}
