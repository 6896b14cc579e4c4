package tools_test

import (
	"fmt"
	"strings"
	"testing"

	"mill/api"
)

// calls tells how a run without a plan ends, and which calls it makes.
func (w world) calls(t *testing.T, trace string) {
	t.Helper()
	want(t, fmt.Sprintf("%q: calls", w.argv), w.trace(t), trace)
}

// P14.3: files are read one after the other, each closed ahead of the next one; there is a Read where a line is asked for that is not there yet, and what comes in is neither opened nor closed.
func TestReadingCalls(t *testing.T) {
	w := world{stdin: "i\n", files: files{"a": "1\n2\n", "b": "3", "e": ""}}
	for words, trace := range map[string]string{
		"cat a b":       "open read read close open read read close write",
		"cat b a":       "open read read close open read read close write",
		"cat":           "read read write",
		"cat -":         "read read write",
		"cat - -":       "read read read write",
		"cat a - b":     "open read read close read read open read read close write",
		"cat e e":       "open read close open read close",
		"cat none a":    "open write open read read close write",
		"cat none":      "open write",
		"cat -n e":      "open read close",
		"wc a e":        "open read read close open read close write",
		"wc":            "read read write",
		"tail a b":      "open read read close open read read close write",
		"tail -n 0 a":   "open read read close",
		"tail -c +9 a":  "open read read close",
		"head a b":      "open read read close open read read close write",
		"head -n 1 a":   "open read close write",
		"head -n 2 a":   "open read close write",
		"head -n 3 a":   "open read read close write",
		"head -n 1 b":   "open read read close write",
		"head -n 0 a":   "open close",
		"head -n 0":     "",
		"head -c 0 a":   "open close",
		"head -c 0 - -": "write",
		"head -c 1 a":   "open read close write",
		"head -c 2 a":   "open read close write",
		"head -c 3 a":   "open read close write",
		"head -c 4 a":   "open read close write",
		"head -c 5 a":   "open read read close write",
		"head -n 1 e":   "open read close",
		"uniq a":        "open read read close write",
		"uniq":          "read read write",
		"uniq e":        "open read close",
		"uniq a new":    "open open read read close write close",
		"uniq e new":    "open open read close close",
		"uniq - new":    "open read read write close",
		"comm a b":      "open open read read read read close close write",
		"comm a -":      "open read read read read close write",
		"comm - a":      "open read read read read close write",
		"comm e e":      "open open read read close close",
		"comm -123 a b": "open open read read read read close close",
		"join a b":      "open open read read read read close close",
		"join -a 1 a -": "open read read read read close write",
		"join a a":      "open open read read read read close close write",
		"cut -b 1 a b":  "open read read close open read read close write",
		"cut -s -f 1 a": "open read read close",
		"cut -f 1":      "read read write",
		"tee":           "read read write",
		"tee new":       "open read read write write close",
		"tee x y":       "open open read read write write close write close",
		"tee -a a x":    "open open read read write write close write close",
		"echo a":        "write",
		"echo":          "write",
		"echo -n":       "",
		"echo -n a":     "write",
	} {
		w.words(words).calls(t, trace)
	}
	for _, words := range []string{"tee", "tee new", "tee x y"} {
		w := w.words(words).input("")
		w.calls(t, map[string]string{"tee": "read", "tee new": "open read close", "tee x y": "open open read close close"}[words])
	}
}

// P14.3: a file comes in pieces of 4096 bytes, each asked for when a line is not there yet.
func TestReadingPieces(t *testing.T) {
	lines := strings.Repeat("123456789012345\n", 600) // 9600 bytes
	w := world{files: files{"a": lines, "b": strings.Repeat("x", 5000) + "\n" + "y\n"}, stdin: lines}
	w.words("wc a").calls(t, "open read read read read close write")
	w.words("head -n 256 a").calls(t, "open read write close")
	w.words("head -n 257 a").calls(t, "open read write read close write")
	w.words("head -n 512 a").calls(t, "open read write read write close")
	w.words("head -c 4096 a").calls(t, "open read write close")
	w.words("head -c 4097 a").calls(t, "open read write read close write")
	w.words("head -c 4080 a").calls(t, "open read close write")
	w.words("head -n 1 b").calls(t, "open read read write close write")
	w.words("head -c 1 b").calls(t, "open read read close write")
	w.words("cat a").calls(t, "open read write read write read read close write")
	w.words("cat -").calls(t, "read write read write read read write")
	w.words("tail -n 600 a").calls(t, "open read read read read write write close write")
	w.words("head -n 256 - - -").calls(t, "read write read write read read write")
	// Behind what the first one has read, not behind what it has put out.
	r := w.words("head -n 1 - -").run(t, api.FsConfig{})
	want(t, "a second -", r.out, "==> - <==\n123456789012345\n\n==> - <==\n123456789012345\n")
	w.words("wc -c - -").ends(t, 0, "9600 -\n0 -\n9600 total\n", "")
	one := world{stdin: "1\n2\n3\n"}
	one.words("head -n 1 - -").ends(t, 0, "==> - <==\n1\n\n==> - <==\n", "")
	short := one.words("head -n 1 - -").run(t, api.FsConfig{Short: []int{3}})
	want(t, "a second -, by short Reads", short.out, "==> - <==\n1\n\n==> - <==\n\n")
}

// P14.3: an Open that is refused: its message, and the tool goes on; uniq, comm and join end.
func TestOpenRefused(t *testing.T) {
	w := world{stdin: "i\n", files: files{"a": "1\n", "b": "2\n"}}
	w.words("cat a none b").ends(t, 1, "1\n2\n", "cat: none: errno 12\n")
	w.words("cat none1 none2").ends(t, 1, "", "cat: none1: errno 12\ncat: none2: errno 12\n")
	w.words("cat '' a").ends(t, 1, "1\n", "cat: : errno 10\n")
	w.words("head none a").ends(t, 1, "==> a <==\n1\n", "head: none: errno 12\n")
	w.words("head a none b").ends(t, 1, "==> a <==\n1\n\n==> b <==\n2\n", "head: none: errno 12\n")
	w.words("head none").ends(t, 1, "", "head: none: errno 12\n")
	w.words("tail none a none b none").ends(t, 1, "==> a <==\n1\n\n==> b <==\n2\n", strings.Repeat("tail: none: errno 12\n", 3))
	w.words("wc none").ends(t, 1, "", "wc: none: errno 12\n")
	w.words("wc none none").ends(t, 1, "0 0 0 total\n", "wc: none: errno 12\nwc: none: errno 12\n")
	w.words("wc none a").ends(t, 1, "1 1 2 a\n1 1 2 total\n", "wc: none: errno 12\n")
	w.words("cut -b 1 none a").ends(t, 1, "1\n", "cut: none: errno 12\n")
	w.words("uniq none").ends(t, 1, "", "uniq: none: errno 12\n")
	w.words("uniq none new").ends(t, 1, "", "uniq: none: errno 12\n")
	w.words("comm none a").ends(t, 1, "", "comm: none: errno 12\n")
	w.words("comm a none").ends(t, 1, "", "comm: none: errno 12\n")
	w.words("comm none none").ends(t, 1, "", "comm: none: errno 12\n")
	w.words("join -a 1 a none").ends(t, 1, "", "join: none: errno 12\n")
	w.words("join none a").ends(t, 1, "", "join: none: errno 12\n")
	w.words("uniq none new").calls(t, "open write")
	w.words("comm none a").calls(t, "open write")
	w.words("comm a none").calls(t, "open open write close")
	w.words("join a none").calls(t, "open open write close")
	w.words("comm - none").calls(t, "open write")
	r := w.words("cat a b").run(t, fault(api.OpOpen, 1))
	want(t, "refused by the plan", r.errs, "cat: a: errno 3\n")
	want(t, "the other one", r.out, "2\n")
	w.room = api.FsConfig{Capacity: 100, Files: 10, Handles: 1}
	r = w.words("comm a b").run(t, api.FsConfig{})
	want(t, "one handle", r.errs, "comm: b: errno 15\n")
	want(t, "one handle: left open", r.stats.Open, 0)
}

// readRefused is a plan that refuses a Read; each Read gives at most two bytes.
func readRefused(nth int) api.FsConfig {
	plan := fault(api.OpRead, nth)
	plan.Short = []int{2}
	return plan
}

// P14.3: a Read that is refused: what was read has been dealt with, then the message, and the tool goes on; uniq, comm and join end.
func TestReadRefused(t *testing.T) {
	w := world{stdin: "1\n1\n2\n3\n", files: files{"a": "1\n1\n2\n3\n", "b": "9\n"}}
	for _, x := range []struct {
		words     string
		nth       int
		out, errs string
	}{
		{"cat a b", 3, "1\n1\n9\n", "cat: a: errno 3\n"},
		{"cat a b", 1, "9\n", "cat: a: errno 3\n"},
		{"cat a b", 5, "1\n1\n2\n3\n9\n", "cat: a: errno 3\n"},
		{"cat -n - b", 3, "     1\t1\n     2\t1\n     3\t9\n", "cat: -: errno 3\n"},
		{"cat - -", 2, "1\n1\n2\n3\n", "cat: -: errno 3\n"},
		{"head a b", 3, "==> a <==\n1\n1\n\n==> b <==\n9\n", "head: a: errno 3\n"},
		{"head -n 2 a", 3, "1\n1\n", ""},
		{"head -c 5 a", 3, "1\n1\n", "head: a: errno 3\n"},
		{"tail a b", 3, "==> a <==\n\n==> b <==\n9\n", "tail: a: errno 3\n"},
		{"tail a", 5, "", "tail: a: errno 3\n"},
		{"tail -n +1 a b", 3, "==> a <==\n\n==> b <==\n9\n", "tail: a: errno 3\n"},
		{"tail -c 3 a", 5, "", "tail: a: errno 3\n"},
		{"wc a b", 3, "2 2 4 a\n1 1 2 b\n3 3 6 total\n", "wc: a: errno 3\n"},
		{"wc a", 1, "0 0 0 a\n", "wc: a: errno 3\n"},
		{"wc", 4, "3 3 6\n", "wc: -: errno 3\n"},
		{"uniq -c a", 2, "      1 1\n", "uniq: a: errno 3\n"},
		{"uniq -c a", 3, "      2 1\n", "uniq: a: errno 3\n"},
		{"uniq -c a", 4, "      2 1\n      1 2\n", "uniq: a: errno 3\n"},
		{"uniq -c a", 1, "", "uniq: a: errno 3\n"},
		{"uniq -d a", 2, "", "uniq: a: errno 3\n"},
		{"uniq", 4, "1\n2\n", "uniq: -: errno 3\n"},
		{"comm a b", 1, "", "comm: a: errno 3\n"},
		{"comm a b", 2, "", "comm: b: errno 3\n"},
		{"comm a b", 3, "1\n", "comm: a: errno 3\n"},
		{"comm - b", 4, "1\n1\n", "comm: -: errno 3\n"},
		{"comm a -", 3, "\t\t1\n", "comm: a: errno 3\n"},
		{"comm a -", 4, "\t\t1\n", "comm: -: errno 3\n"},
		{"join a -", 3, "", "join: a: errno 3\n"},
		{"join a -", 4, "", "join: a: errno 3\n"},
		{"join a -", 5, "", "join: -: errno 3\n"},
		{"join a -", 6, "", "join: -: errno 3\n"},
		{"join a -", 7, "1\n1\n1\n1\n", "join: a: errno 3\n"},
		{"join -a 1 a b", 3, "1\n", "join: a: errno 3\n"},
		{"join -v 1 -v 2 a b", 4, "1\n1\n", "join: a: errno 3\n"},
		{"cut -b 1 a b", 3, "1\n1\n9\n", "cut: a: errno 3\n"},
		{"cut -f 1 - b", 3, "1\n1\n9\n", "cut: -: errno 3\n"},
		{"tee", 3, "1\n1\n", "tee: -: errno 3\n"},
	} {
		r := w.words(x.words).run(t, readRefused(x.nth))
		what := fmt.Sprintf("%s, Read %d refused", x.words, x.nth)
		want(t, what, r.out, x.out)
		want(t, what+": diagnostics", r.errs, x.errs)
		want(t, what+": status", r.status, min(len(x.errs), 1))
		want(t, what+": why", r.why, api.OK)
		want(t, what+": left open", r.stats.Open, 0)
		want(t, what+": files", r.files, w.files.String())
	}
	r := w.words("tee x b").run(t, readRefused(3))
	want(t, "tee", r.files, w.files.with("x", "1\n1\n").with("b", "1\n1\n").String())
	r = w.words("uniq -c a b").run(t, readRefused(4))
	want(t, "uniq into a file", r.files, w.files.with("b", "      2 1\n      1 2\n").String())
	want(t, "uniq into a file: calls", w.words("uniq a new").traceUnder(t, fault(api.OpRead, 1)), "open open read write close close")
	want(t, "comm: calls", w.words("comm a b").traceUnder(t, fault(api.OpRead, 1)), "open open read write close close")
	want(t, "join: calls", w.words("join a b").traceUnder(t, fault(api.OpRead, 2)), "open open read read write close close")
	want(t, "cat: calls", w.words("cat a b").traceUnder(t, fault(api.OpRead, 2)), "open read read write close open read read close write")
}

// P14.3: part of a line that was read ahead of a refusal is not dealt with.
func TestReadRefusedWithinLine(t *testing.T) {
	w := world{stdin: "ab\ncd\nef\n"}
	for words, out := range map[string]string{"cat": "ab\n", "wc": "1 1 3\n", "head -c 4": "ab\n", "uniq": "ab\n", "tee": "ab\n", "tail": "", "cut -b 1-": "ab\n"} {
		plan := fault(api.OpRead, 2)
		plan.Short = []int{5}
		r := w.words(words).run(t, plan)
		want(t, words, r.out, out)
		want(t, words+": status", r.status, 1)
	}
}

// P14.3: a line too long counts as a Read that is refused.
func TestLineTooLong(t *testing.T) {
	long := strings.Repeat("x", api.MaxLine)
	w := world{files: files{"at": "a\n" + long + "\nb\n", "past": "a\na\n" + long + "x\nb\n", "bare": long, "bare past": long + "x", "z": "z\n"}}
	w.words("wc -c at bare").ends(t, 0, "65541 at\n65536 bare\n131077 total\n", "")
	w.words("cat at").ends(t, 0, "a\n"+long+"\nb\n", "")
	w.words("uniq bare").ends(t, 0, long+"\n", "")
	w.words("cat past z").ends(t, 1, "a\na\nz\n", "cat: past: errno 22\n")
	w.words("wc past z").ends(t, 1, "2 2 4 past\n1 1 2 z\n3 3 6 total\n", "wc: past: errno 22\n")
	w.words("head past").ends(t, 1, "a\na\n", "head: past: errno 22\n")
	w.words("head -n 2 past").ends(t, 0, "a\na\n", "")
	w.words("head -c 4 past").ends(t, 0, "a\na\n", "")
	w.words("head -c 5 past").ends(t, 1, "a\na\n", "head: past: errno 22\n")
	w.words("tail past z").ends(t, 1, "==> past <==\n\n==> z <==\nz\n", "tail: past: errno 22\n")
	w.words("uniq -c past").ends(t, 1, "      2 a\n", "uniq: past: errno 22\n")
	w.words("comm past z").ends(t, 1, "a\na\n", "comm: past: errno 22\n")
	w.words("join past past").ends(t, 1, "", "join: past: errno 22\n")
	w.words("cut -b 1 past z").ends(t, 1, "a\na\nz\n", "cut: past: errno 22\n")
	w.words("tee").input("a\n"+long+"x\nb\n").ends(t, 1, "a\n", "tee: -: errno 22\n")
	w.argv = []string{"cat", "bare past", "z"}
	w.ends(t, 1, "z\n", "cat: bare past: errno 22\n")
}

// P14.3: a Close that is refused goes by.
func TestCloseRefused(t *testing.T) {
	w := world{stdin: "1\n", files: files{"a": "1\n", "b": "2\n"}}
	for words, out := range map[string]string{
		"cat a b": "1\n2\n", "head a b": "==> a <==\n1\n\n==> b <==\n2\n", "tail -n 1 a": "1\n", "wc -l a b": "1 a\n1 b\n2 total\n", "uniq a": "1\n", "uniq a new": "", "comm a b": "1\n\t2\n", "join a -": "1\n", "cut -b 1 a b": "1\n2\n", "tee new x": "1\n",
	} {
		for nth := 1; nth <= 2; nth++ {
			r := w.words(words).run(t, fault(api.OpClose, nth))
			what := fmt.Sprintf("%s, Close %d refused", words, nth)
			want(t, what, r.out, out)
			want(t, what+": diagnostics", r.errs, "")
			want(t, what+": status", r.status, 0)
			want(t, what+": why", r.why, api.OK)
			want(t, what+": left open", r.stats.Open, 0)
		}
	}
}
