package keyspec_test

import (
	"fmt"
	"reflect"
	"strings"
	"testing"
	"unsafe"

	"mill/api"
	"mill/keyspec"
)

// want compares two values, and tells what they are of.
func want[T comparable](t *testing.T, what string, got, wanted T) {
	t.Helper()
	if got != wanted {
		t.Errorf("%s: %+v, want %+v", what, got, wanted)
	}
}

// same tells whether options are the same: an empty list is one that is nil.
func same(a, b api.Options) bool {
	return reflect.DeepEqual(listed(a), listed(b))
}

func listed(o api.Options) api.Options {
	if len(o.Keys) == 0 {
		o.Keys = nil
	}
	if len(o.Files) == 0 {
		o.Files = nil
	}
	return o
}

// takes tells that an argv says these options.
func takes(t *testing.T, wanted api.Options, argv ...string) {
	t.Helper()
	o, place, e := keyspec.Parse(argv)
	if !same(o, wanted) || place != 0 || e != api.OK {
		t.Errorf("Parse(%s): %+v, %d, %d, want %+v", brief(argv), o, place, e, wanted)
	}
}

// refuses tells that an argv is refused with this error at this place.
func refuses(t *testing.T, place int, wanted api.Errno, argv ...string) {
	t.Helper()
	o, at, e := keyspec.Parse(argv)
	if !reflect.DeepEqual(o, api.Options{}) || at != place || e != wanted {
		t.Errorf("Parse(%s): %+v, %d, %d, want %d, %d", brief(argv), o, at, e, place, wanted)
	}
}

// none is what no word at all says, with these changes.
func none(change ...func(o *api.Options)) api.Options {
	o := api.Options{Tab: -1}
	for _, f := range change {
		f(&o)
	}
	return o
}

// files are options that say these operands alone.
func files(names ...string) api.Options { return api.Options{Tab: -1, Files: names} }

// words are many words, each the same.
func words(n int, word string) []string {
	l := make([]string, n)
	for i := range l {
		l[i] = word
	}
	return l
}

func xs(n int) string { return strings.Repeat("x", n) }

// brief shows an argv, and of much of it the beginning.
func brief(argv []string) string {
	s := fmt.Sprintf("%.40q", argv)
	if len(s) > 300 {
		s = s[:300] + " .."
	}
	return s
}

// texts are all strings of at most most bytes of an alphabet, the empty one first.
func texts(alphabet string, most int) []string {
	l := []string{""}
	for from := 0; most > 0; most-- {
		to := len(l)
		for _, s := range l[from:to] {
			for i := range len(alphabet) {
				l = append(l, s+alphabet[i:i+1])
			}
		}
		from = to
	}
	return l
}

// block is where something lies in memory: from its first byte up to, but without, its last.
type block struct{ from, to uintptr }

func ofText(s string) block {
	from := uintptr(unsafe.Pointer(unsafe.StringData(s)))
	return block{from, from + uintptr(len(s))}
}

// ofList gives a list's block, spare room included.
func ofList[T any](l []T) block {
	var one T
	from := uintptr(unsafe.Pointer(unsafe.SliceData(l)))
	return block{from, from + uintptr(cap(l))*unsafe.Sizeof(one)}
}

// apart tells that no two of these blocks share memory.
func apart(t *testing.T, what string, l []block) {
	t.Helper()
	for i, a := range l {
		for k, b := range l[i+1:] {
			if a.from < a.to && b.from < b.to && a.from < b.to && b.from < a.to {
				t.Errorf("%s: blocks %d and %d share memory", what, i, i+1+k)
			}
		}
	}
}
