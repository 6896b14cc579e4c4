package runs_test

import (
	"math/rand"
	"slices"
	"strconv"
	"strings"
	"testing"
	"unsafe"

	"mill/api"
	"mill/collate"
	"mill/keyspec"
	"mill/runs"
)

// want compares two values, and tells what they are of.
func want[T comparable](t *testing.T, what string, got, wanted T) {
	t.Helper()
	if got != wanted {
		t.Errorf("%s: %+v, want %+v", what, got, wanted)
	}
}

// same compares two lists; an empty one is empty, nil or not.
func same[T comparable](t *testing.T, what string, got, wanted []T) {
	t.Helper()
	if len(got) != len(wanted) {
		t.Errorf("%s: %d items, want %d: %v, want %v", what, len(got), len(wanted), firsts(got), firsts(wanted))
		return
	}
	for i := range got {
		if got[i] != wanted[i] {
			t.Errorf("%s: item %d of %d: %v, want %v", what, i, len(got), got[i], wanted[i])
			return
		}
	}
}

// firsts gives the first few items of a list.
func firsts[T any](l []T) []T { return l[:min(len(l), 9)] }

// order gives the order of options that words say, split at blanks.
func order(t *testing.T, words string) *collate.Order {
	t.Helper()
	options, _, e := keyspec.Parse(strings.Fields(words))
	if e != api.OK {
		t.Fatalf("Parse(%q): %d", words, e)
	}
	o, e := collate.New(options)
	if e != api.OK {
		t.Fatalf("New(%q): %d", words, e)
	}
	return o
}

// someOrders are words of options that have together what matters here: keys, ties that whole lines break or do not, and r.
var someOrders = []string{"", "-r", "-s", "-f", "-fs", "-fu", "-fr", "-frs", "-n", "-nr", "-ns", "-k2", "-k2,2 -s", "-k1,1n -k2,2r", "-t, -k2,2n -k1,1r -s", "-k9 -s", "-k9 -ru", "-V", "-M -s"}

// gen makes a generator.
func gen(t *testing.T, o *collate.Order, lines, bytes int) *runs.Gen {
	t.Helper()
	g, e := runs.NewGen(o, lines, bytes)
	if g == nil || e != api.OK {
		t.Fatalf("NewGen(%d, %d): %d", lines, bytes, e)
	}
	return g
}

// load makes a load.
func load(t *testing.T, o *collate.Order, lines, bytes, parallel int, done <-chan struct{}) *runs.Load {
	t.Helper()
	l, e := runs.NewLoad(o, lines, bytes, parallel, done)
	if l == nil || e != api.OK {
		t.Fatalf("NewLoad(%d, %d, %d): %d", lines, bytes, parallel, e)
	}
	return l
}

// tagged writes records as the chapter does, RUN:LINE(NUMBER), with blanks between them.
func tagged(l []api.Tagged) string {
	var s []string
	for _, x := range l {
		s = append(s, strconv.Itoa(x.Run)+":"+x.Rec.Line+"("+strconv.FormatUint(x.Rec.Seq, 10)+")")
	}
	return strings.Join(s, " ")
}

// adder is what Gen and Load have alike.
type adder interface {
	Add(line string) ([]api.Tagged, api.Errno)
	Held() (int, int)
}

// adds adds lines, all but the last of which must let nothing out; the last one what is written so.
func adds(t *testing.T, a adder, wanted string, lines ...string) {
	t.Helper()
	for i, line := range lines {
		out, e := a.Add(line)
		want(t, "Add("+line+")", e, api.OK)
		if i < len(lines)-1 {
			want(t, "Add("+line+")", tagged(out), "")
		} else {
			want(t, "Add("+line+")", tagged(out), wanted)
		}
	}
}

// holds tells how many lines are held, and what they cost.
func holds(t *testing.T, a adder, lines, bytes int) {
	t.Helper()
	gl, gb := a.Held()
	if gl != lines || gb != bytes {
		t.Errorf("Held: %d, %d, want %d, %d", gl, gb, lines, bytes)
	}
}

// recs makes records of lines, numbered as they stand.
func recs(lines ...string) []api.Rec {
	l := make([]api.Rec, len(lines))
	for i, line := range lines {
		l[i] = api.Rec{Seq: uint64(i), Line: strings.Clone(line)}
	}
	return l
}

// comesFirst tells whether a record is ahead of another, as the chapter says it.
func comesFirst(o *collate.Order, a, b api.Rec) bool {
	if c := o.Compare(a.Line, b.Line); c != 0 {
		return c < 0
	}
	return a.Seq < b.Seq
}

// sortedSlowly takes of what is left, again and again, the first record that no other one is ahead of.
func sortedSlowly(o *collate.Order, l []api.Rec) (out []api.Rec) {
	left := slices.Clone(l)
	for len(left) > 0 {
		first := 0
		for i, r := range left {
			if comesFirst(o, r, left[first]) {
				first = i
			}
		}
		out = append(out, left[first])
		left = slices.Delete(left, first, first+1)
	}
	return out
}

// texts are all strings of at most most bytes of an alphabet, the empty one first.
func texts(alphabet string, most int) []string {
	l := []string{""}
	for from := 0; most > 0; most-- {
		to := len(l)
		for _, s := range l[from:to] {
			for i := range len(alphabet) {
				l = append(l, s+alphabet[i:i+1])
			}
		}
		from = to
	}
	return l
}

// anyLines are lines of any bytes, many of them alike by some order, the same ones for each seed.
func anyLines(seed int64, many int) []string {
	pieces := []string{" ", "\t", ",", "a", "A", "b", "B", "z", "0", "1", "2", "10", "-3", ".5", "jan", "FEB", "1.10", "1.9", "\x00", "\n", "\x7f", "\xff", "é"}
	r := rand.New(rand.NewSource(seed))
	l := make([]string, many)
	for i := range l {
		var b strings.Builder
		for range r.Intn(6) {
			b.WriteString(pieces[r.Intn(len(pieces))])
		}
		l[i] = b.String()
	}
	return l
}

// numbered are lines that are numbers of so many digits, drawn.
func numbered(seed int64, many, digits int) []string {
	r := rand.New(rand.NewSource(seed))
	l := make([]string, many)
	for i := range l {
		b := make([]byte, digits)
		for k := range b {
			b[k] = byte('0' + r.Intn(10))
		}
		l[i] = string(b)
	}
	return l
}

func xs(n int) string { return strings.Repeat("x", n) }

// memory is where something lies: from its first byte up to, but without, its last.
type memory struct{ from, to uintptr }

func ofText(s string) memory {
	from := uintptr(unsafe.Pointer(unsafe.StringData(s)))
	return memory{from, from + uintptr(len(s))}
}

// ofList gives a list's memory, spare room included.
func ofList[T any](l []T) memory {
	var one T
	from := uintptr(unsafe.Pointer(unsafe.SliceData(l)))
	return memory{from, from + uintptr(cap(l))*unsafe.Sizeof(one)}
}

// ofTagged gives the memory of an answer: of its list and of each line.
func ofTagged(l []api.Tagged) []memory {
	m := []memory{ofList(l)}
	for _, x := range l {
		m = append(m, ofText(x.Rec.Line))
	}
	return m
}

// ofRecs gives the memory of records: of their list and of each line.
func ofRecs(l []api.Rec) []memory {
	m := []memory{ofList(l)}
	for _, r := range l {
		m = append(m, ofText(r.Line))
	}
	return m
}

// apart tells that no two of these share memory.
func apart(t *testing.T, what string, l []memory) {
	t.Helper()
	for i, a := range l {
		for k, b := range l[i+1:] {
			if a.from < a.to && b.from < b.to && a.from < b.to && b.from < a.to {
				t.Errorf("%s: %d and %d share memory", what, i, i+1+k)
			}
		}
	}
}
