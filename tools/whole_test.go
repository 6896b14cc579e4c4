package tools_test

import (
	"fmt"
	"math/rand"
	"strings"
	"testing"

	"mill/api"
	"mill/sortcmd"
)

// sorted gives what the command sort makes of a text.
func sorted(t *testing.T, text string, options ...string) string {
	t.Helper()
	s := world{files: files{"f": text}}.system(t, api.FsConfig{})
	out := s.Sink(-1)
	want(t, "status of sort", sortcmd.Run(s, append(options, "f"), s.Input(nil), out, s.Sink(-1)), 0)
	return string(out.Taken())
}

// tool gives what a tool puts out.
func tool(t *testing.T, in string, f files, words string) string {
	t.Helper()
	r := world{stdin: in, files: f}.words(words).run(t, api.FsConfig{})
	want(t, words+": status", r.status, 0)
	return r.out
}

// W11: sort | uniq is sort -u; and what the tools say of sorted files fits together.
func TestSortedFiles(t *testing.T) {
	r := rand.New(rand.NewSource(143))
	for range 300 {
		a, b := sorted(t, anyText(r)), sorted(t, anyText(r))
		f := files{"a": a, "b": b}
		want(t, "sort | uniq", tool(t, a, nil, "uniq"), sorted(t, a, "-u"))
		want(t, "uniq -d and -u", sorted(t, tool(t, a, nil, "uniq -d")+tool(t, a, nil, "uniq -u")), sorted(t, a, "-u"))
		want(t, "all columns of comm", sorted(t, tool(t, "", f, "comm -23 a b")+tool(t, "", f, "comm -12 a b")+tool(t, "", f, "comm -12 a b")+tool(t, "", f, "comm -13 a b")), sorted(t, a+b))
		want(t, "comm the other way round", tool(t, "", f, "comm -13 a b"), tool(t, "", f, "comm -23 b a"))
		want(t, "comm of one", tool(t, a, f, "comm -3 a -"), "")
		// A separator that no line has: the key is the whole line.
		u := files{"a": sorted(t, a, "-u"), "b": sorted(t, b, "-u")}
		want(t, "join of whole lines", tool(t, "", u, "join -t \x01 a b"), tool(t, "", u, "comm -12 a b"))
		want(t, "join of whole lines, those without a partner", tool(t, "", u, "join -t \x01 -v 1 a b"), tool(t, "", u, "comm -23 a b"))
		want(t, "cut of all", tool(t, a, nil, "cut -b 1-"), a)
		want(t, "cut of all fields", tool(t, a, nil, "cut -d a -f 1-"), a)
		count := strings.Fields(tool(t, a, nil, "wc"))
		want(t, "lines", count[0], fmt.Sprint(strings.Count(a, "\n")))
		want(t, "bytes", count[2], fmt.Sprint(len(a)))
		n := r.Intn(12)
		want(t, "head and tail", tool(t, a, nil, fmt.Sprint("head -n ", n))+tool(t, a, nil, fmt.Sprint("tail -n +", n+1)), a)
		want(t, "head and tail, bytes", tool(t, a, nil, fmt.Sprint("head -c ", n))+tool(t, a, nil, fmt.Sprint("tail -c +", n+1)), a)
	}
}
