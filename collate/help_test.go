package collate_test

import (
	"math/rand"
	"strings"
	"testing"
	"unsafe"

	"mill/api"
	"mill/collate"
	"mill/keyspec"
)

// want compares two values, and tells what they are of.
func want[T comparable](t *testing.T, what string, got, wanted T) {
	t.Helper()
	if got != wanted {
		t.Errorf("%s: %+v, want %+v", what, got, wanted)
	}
}

// argv gives the options that words say.
func argv(t *testing.T, words ...string) api.Options {
	t.Helper()
	o, _, e := keyspec.Parse(words)
	if e != api.OK {
		t.Fatalf("Parse(%q): %d", words, e)
	}
	return o
}

// made gives the order of options.
func made(t *testing.T, o api.Options) *collate.Order {
	t.Helper()
	order, e := collate.New(o)
	if order == nil || e != api.OK {
		t.Fatalf("New(%+v): %v, %d", o, order, e)
	}
	return order
}

// order gives the order of options that words say, split at blanks.
func order(t *testing.T, words string) *collate.Order {
	t.Helper()
	return made(t, argv(t, strings.Fields(words)...))
}

// manyOrders are words of options that have together all that an order can do.
var manyOrders = []string{
	"", "-r", "-s", "-u", "-rs", "-f", "-d", "-i", "-di", "-fr", "-b", "-bfu", "-n", "-nr", "-nu", "-g", "-gs", "-h", "-hr", "-M", "-V", "-Vf", "-Vfs", "-nb", "-nf", "-gf",
	"-k2", "-k2 -r", "-k2 -s", "-k2,2 -k1,1", "-k2,2r -k1", "-k1,1n -k2,2r", "-k2b,2b", "-k2,2b -u", "-b -k2,2.1", "-k1.2,1.3", "-k1.2b,2.0", "-k2.2,1.1", "-k3.2b,3.2b -s",
	"-t, -k2,2", "-t, -k2,2n -k1,1r", "-t, -k2.2,3.1f -u", "-t: -k1,1V -k3 -r", "-k1,1d -k2,2i", "-k1,1fd -k2g -s", "-k1,1h -k1,1M -k1,1g -k1,1r", "-k1.1,1.1r -k1.2,1.2 -k1.3,1.3r",
	"-n -k2 -k1r", "-n -d -k1,1M -k2V", "-k9 -k9.9,10.3 -k1,1 -ru", "-ta -k2,3 -k1r", "-k2147483647.2147483647,2147483647.2147483647n -u",
	"-k1,1 -k1,1 -k1,1 -k1,1 -k1,1 -k1,1 -k1,1 -k1,1 -k1,1 -k1,1 -k1,1 -k1,1 -k1,1 -k1,1 -k1,1 -k2,2r",
}

// texts are all strings of at most most bytes of an alphabet, the empty one first.
func texts(alphabet string, most int) []string {
	l := []string{""}
	for from := 0; most > 0; most-- {
		to := len(l)
		for _, s := range l[from:to] {
			for i := range len(alphabet) {
				l = append(l, s+alphabet[i:i+1])
			}
		}
		from = to
	}
	return l
}

// strange are lines of any bytes, the same ones for each seed: most of them are made of what fields and keys are made of.
func strange(seed int64, many int) []string {
	pieces := []string{
		" ", " ", "\t", ",", ",", ":", "a", "A", "b", "B", "ab", "z", "Z", "0", "1", "2", "10", "007", "-", "-3", ".5", "1e2", "nan", "-inf", "2K", "1M", "jan", "FEB", "1.10", "1.9", "~",
		"\x00", "\x01", "\n", "\r", "\v", "\x1f", "\x7f", "\x80", "\xff", "é", "@", "[", "`", "{", "/",
	}
	r := rand.New(rand.NewSource(seed))
	l := make([]string, many)
	for i := range l {
		var b strings.Builder
		for range r.Intn(9) {
			if r.Intn(10) == 0 {
				b.WriteByte(byte(r.Intn(256)))
			} else {
				b.WriteString(pieces[r.Intn(len(pieces))])
			}
		}
		l[i] = b.String()
	}
	return l
}

// block is where something lies in memory: from its first byte up to, but without, its last.
type block struct{ from, to uintptr }

func ofText(s string) block {
	from := uintptr(unsafe.Pointer(unsafe.StringData(s)))
	return block{from, from + uintptr(len(s))}
}

// ofList gives a list's block, spare room included.
func ofList[T any](l []T) block {
	var one T
	from := uintptr(unsafe.Pointer(unsafe.SliceData(l)))
	return block{from, from + uintptr(cap(l))*unsafe.Sizeof(one)}
}

// ofRecs gives the blocks of records: of their list and of each line.
func ofRecs(l []api.Rec) []block {
	blocks := []block{ofList(l)}
	for _, r := range l {
		blocks = append(blocks, ofText(r.Line))
	}
	return blocks
}

// apart tells that no two of these blocks share memory.
func apart(t *testing.T, what string, l []block) {
	t.Helper()
	for i, a := range l {
		for k, b := range l[i+1:] {
			if a.from < a.to && b.from < b.to && a.from < b.to && b.from < a.to {
				t.Errorf("%s: blocks %d and %d share memory", what, i, i+1+k)
			}
		}
	}
}
