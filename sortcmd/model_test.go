package sortcmd_test

import (
	"math/rand"
	"slices"
	"strconv"
	"strings"
	"testing"

	"mill/api"
	"mill/collate"
	"mill/keyspec"
	"mill/lineio"
)

// modelled is what the document says of a call: worked out on lists.
type modelled struct {
	status int
	out    string // what is put out, here or there
	errs   string
	target string // where it is put; "": to the standard output
}

// inputs gives the lines of each input of a world.
func (w world) inputs(o api.Options) [][]string {
	sep := byte('\n')
	if o.Zero {
		sep = 0
	}
	names, stdin := o.Files, w.stdin
	if len(names) == 0 {
		names = []string{"-"}
	}
	var l [][]string
	for _, name := range names {
		data := w.files[name]
		if name == "-" {
			data, stdin = stdin, ""
		}
		lines, _ := lineio.Split([]byte(data), sep)
		l = append(l, lines)
	}
	return l
}

// model works it out. All inputs must be there; those of a merge must be in order.
func (w world) model(t *testing.T) modelled {
	t.Helper()
	o, _, e := keyspec.Parse(w.argv)
	if e != api.OK {
		t.Fatalf("Parse(%q): %d", w.argv, e)
	}
	order, e := collate.New(o)
	want(t, "collate.New", e, api.OK)
	lines := slices.Concat(w.inputs(o)...)
	if o.Check != api.CheckNone {
		return checked(o, order, lines)
	}
	slices.SortStableFunc(lines, order.Compare)
	if o.Unique {
		lines = slices.CompactFunc(lines, func(a, b string) bool { return order.Keys(a, b) == 0 })
	}
	sep := "\n"
	if o.Zero {
		sep = "\x00"
	}
	m := modelled{target: o.Output}
	for _, line := range lines {
		m.out += line + sep
	}
	return m
}

// checked is the model of check.
func checked(o api.Options, order *collate.Order, lines []string) modelled {
	for i := 1; i < len(lines); i++ {
		one, two := lines[i-1], lines[i]
		if order.Compare(one, two) <= 0 && (!o.Unique || order.Keys(one, two) < 0) {
			continue
		}
		if o.Check == api.CheckSilent {
			return modelled{status: 1}
		}
		name := append(slices.Clone(o.Files), "-")[0]
		return modelled{status: 1, errs: "sort: " + nameOf(name) + ":" + strconv.Itoa(i+1) + ": disorder: " + nameOf(two) + "\n"}
	}
	return modelled{}
}

// comes tells that a call has ended as the model does: with no other file, and none open.
func (w world) comes(t *testing.T, what string, r result, m modelled) {
	t.Helper()
	want(t, what+": status", r.status, m.status)
	want(t, what+": diagnostics", r.errs, m.errs)
	after := w
	if m.target != "" {
		after.files, m.out = w.files.with(m.target, m.out), ""
	}
	want(t, what+": put out", r.out, m.out)
	after.unchanged(t, what, r.fs)
}

// stops tells that a call has ended ahead of its end: with this status and these diagnostics, and with all files as they were.
func (w world) stops(t *testing.T, what string, r result, m modelled, status int, errs string) {
	t.Helper()
	want(t, what+": status", r.status, status)
	want(t, what+": diagnostics", r.errs, errs)
	w.unchanged(t, what, r.fs)
	if !strings.HasPrefix(m.out, r.out) || m.target != "" && r.out != "" {
		t.Errorf("%s: put out %q of %q", what, r.out, m.out)
	}
}

// jobs are worlds of calls of all kinds.
func jobs() []world {
	f := files{"a": each("d b d a c"), "b": each("a e"), "c": "", "s": each("a c d"), "u": each("b c"), "t.00002": "not the job's"}
	w := world{files: f, stdin: each("c d")}
	var l []world
	for _, words := range []string{
		"a b c", "-o out b a", "-o a a b", "- a", "-u -o b -", "-r -z a",
		"--lines=2 a b", "--lines=1 --batch-size=2 a b", "--lines=2 --batch-size=2 -o out a b c", "--lines=1 --batch-size=2 --pack -o b a b", "-u --lines=2 --batch-size=2 -T t -o out b a a",
		"--lines=2 --parallel=2 --batch-size=3 a b", "--lines=1 --parallel=3 --batch-size=2 -o out -",
		"--checkpoint ck -o out a b", "--checkpoint ck -o a --lines=2 --batch-size=2 a b", "--checkpoint ck -o out c", "-u --checkpoint ck -o out --lines=1 --batch-size=2 -T t b a",
		"-m s u c", "-m -o u s u", "-m --batch-size=2 s - c u", "-m --batch-size=2 -u -o out u s s -",
	} {
		l = append(l, w.words(words))
	}
	return l
}

// checks are worlds of checks.
func checks() []world {
	w := world{files: files{"a": each("d b d a c"), "s": each("a c c d"), "c": ""}, stdin: each("c d\\ d")}
	var l []world
	for _, words := range []string{"-c a", "-C a", "-c s", "-C s", "-cu s", "-Cu s", "-c c", "-c", "-C -", "-cr -", "-c -k2 a"} {
		l = append(l, w.words(words))
	}
	return l
}

// anyLines gives lines of a few bytes, of which many are alike.
func anyLines(r *rand.Rand, most int) string {
	some := []string{"a", "b", "B", " ", "\t", "1", "2", "-", ".", ",", "k", "\x00", "\xff", "jan", "\\", "\n", "\n", "\n"}
	data := ""
	for range r.Intn(most) {
		data += some[r.Intn(len(some))]
	}
	return data
}
