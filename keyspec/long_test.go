package keyspec_test

import (
	"strings"
	"testing"

	"mill/api"
	"mill/keyspec"
)

// longNames are the names of the chapter's table.
const longNames = `ignore-leading-blanks dictionary-order ignore-case general-numeric-sort human-numeric-sort ignore-nonprinting month-sort numeric-sort reverse version-sort
	check merge stable unique zero-terminated key output field-separator buffer-size temporary-prefix lines batch-size parallel pack checkpoint sort`

func long(t *testing.T, word, wanted string, e api.Errno) {
	t.Helper()
	name, err := keyspec.Long(word)
	if name != wanted || err != e {
		t.Errorf("Long(%.40q): %q, %d, want %q, %d", word, name, err, wanted, e)
	}
}

// modelLong counts the names that a word begins.
func modelLong(word string) (string, api.Errno) {
	begins := 0
	found := ""
	for _, name := range strings.Fields(longNames) {
		if name == word {
			return name, api.OK
		}
		if word != "" && strings.HasPrefix(name, word) {
			begins++
			found = name
		}
	}
	switch begins {
	case 0:
		return "", api.ErrOption
	case 1:
		return found, api.OK
	}
	return "", api.ErrAmbig
}

// P4.5: every beginning of every name, and each of these with a byte more.
func TestLongAll(t *testing.T) {
	for _, name := range strings.Fields(longNames) {
		for i := range len(name) + 1 {
			wanted, e := modelLong(name[:i])
			long(t, name[:i], wanted, e)
			for c := range 256 {
				word := name[:i] + string([]byte{byte(c)})
				wanted, e := modelLong(word)
				long(t, word, wanted, e)
			}
		}
	}
}

// P4.5: what is told of single words, without the model.
func TestLong(t *testing.T) {
	for word, wanted := range map[string]string{
		"check": "check", "checkp": "checkpoint", "checkpoint": "checkpoint", "sort": "sort", "so": "sort", "st": "stable", "pac": "pack", "par": "parallel",
		"ignore-c": "ignore-case", "ignore-l": "ignore-leading-blanks", "ignore-n": "ignore-nonprinting", "me": "merge", "mo": "month-sort", "ba": "batch-size", "bu": "buffer-size",
		"n": "numeric-sort", "g": "general-numeric-sort", "h": "human-numeric-sort", "v": "version-sort", "d": "dictionary-order", "r": "reverse", "u": "unique", "z": "zero-terminated",
		"k": "key", "o": "output", "f": "field-separator", "t": "temporary-prefix", "l": "lines",
	} {
		long(t, word, wanted, api.OK)
	}
	for _, word := range []string{"c", "che", "chec", "i", "ignore", "ignore-", "m", "p", "pa", "b", "s"} {
		long(t, word, "", api.ErrAmbig)
	}
	for _, word := range []string{"", "-", "--", "-n", "--check", "x", "Check", "CHECK", "checks", "sort ", " sort", "q", "C", "\x00", "\xff", "key\x00", "=", "check=", "check=quiet", "check=q", "k=1", "sort=month", "s=", "ignore_case", xs(100000)} {
		long(t, word, "", api.ErrOption)
	}
}

// The grammar: a long option of an argv goes by the same beginnings; the name ends at the first =.
func TestLongInArgv(t *testing.T) {
	for _, name := range strings.Fields(longNames) {
		for i := 1; i <= len(name); i++ {
			whole, e := modelLong(name[:i])
			for _, tail := range []string{"", "=", "=2", "=2=3", "=quiet", "=month"} {
				o, place, got := keyspec.Parse([]string{"a", "--" + name[:i] + tail})
				if e != api.OK {
					if place != 1 || got != e {
						t.Errorf("--%s%s: %d, %d, want 1, %d", name[:i], tail, place, got, e)
					}
					continue
				}
				wanted, wplace, we := keyspec.Parse([]string{"a", "--" + whole + tail})
				if !same(o, wanted) || place != wplace || got != we {
					t.Errorf("--%s%s: %+v, %d, %d, want %+v, %d, %d", name[:i], tail, o, place, got, wanted, wplace, we)
				}
			}
		}
	}
	for _, word := range []string{"--=", "--=x", "--=check", "---", "---n", "---check", "--x", "--\x00", "--check\x00", "-- "} {
		refuses(t, 1, api.ErrOption, "a", word)
	}
}
