package tools_test

import (
	"fmt"
	"strings"
	"testing"

	"mill/api"
)

// P14.4: what goes out goes in pieces of 4096 bytes, as soon as it is known, and the rest of it at the end.
func TestWritingPieces(t *testing.T) {
	block := strings.Repeat("1234567\n", 512) // 4096 bytes
	w := world{files: files{"a": block, "b": block + "x", "x": strings.Repeat("x", 9000) + "\n"}}
	w.words("cat a").calls(t, "open read write read close")
	w.words("cat b").calls(t, "open read write read read close write")
	w.words("cat a a").calls(t, "open read write read close open read write read close")
	w.words("cat x").calls(t, "open read read read write write read close write")
	w.words("cat -n a").calls(t, "open read write read close write")
	w.words("uniq -c x").calls(t, "open read read read read write write close write")
	w.words("uniq x").calls(t, "open read read read read write write close write")
	w.words("uniq x new").calls(t, "open open read read read read write write close write close")
	w.words("tail x").calls(t, "open read read read read write write close write")
	w.words("comm x a").calls(t, "open open read read read read write read write write read close close write")
	w.words("tee new").input(block).calls(t, "open read write write read close")
	w.words("tee x y").input(block+"z").calls(t, "open open read write write write read read write write close write close")
	w.argv = []string{"echo", block}
	w.calls(t, "write write")
	w.argv = []string{"echo", "-n", block}
	w.calls(t, "write")
	// wc's lines go out ahead of the Close that ends the file.
	long := strings.Repeat("n", api.MaxName) // "4096 " and that are 70 bytes with the newline
	w.files = w.files.with(long, block)
	w.argv = []string{"wc", "-c"}
	for range 58 {
		w.argv = append(w.argv, long)
	}
	ahead := strings.Repeat("open read read close ", 58)
	w.calls(t, ahead+"write")
	w.argv = append(w.argv, long)
	w.calls(t, ahead+"open read read write close write")
}

// P14.4: a Write of what goes out that is refused: a message, and the tool ends at once; what is open is closed.
func TestWriteRefused(t *testing.T) {
	block := strings.Repeat("1234567\n", 512)
	w := world{stdin: "1\n", files: files{"a": "1\n", "b": block + "x\n", "k": strings.Repeat("k\n", 60)}}
	for _, x := range []struct{ words, trace string }{
		{"cat a a", "open read read close open read read close write write"},
		{"cat b a", "open read write write close"},
		{"cat", "read read write write"},
		{"head b a", "open read write write"},
		{"head -n 600 b a", "open read write write close"},
		{"tail -n 600 b a", "open read read read write write close"},
		{"wc a none", "open read read close open write write write"},
		{"uniq b", "open read read read write write close"},
		{"uniq -c a", "open read read close write write"},
		{"uniq a new", "open open read read close write write close"},
		{"uniq k b", "open open read read close write write close"},
		{"comm b a", "open open read read read read write write close close"},
		{"comm - a", "open read read read read close write write"},
		{"join k k", "open open read read read read write write close close"},
		{"cut -b 1- b a", "open read read write write close"},
		{"tee new", "open read read write write close"},
		{"tee new x", "open open read read write write close close"},
		{"echo a", "write write"},
	} {
		// The first Write, but where a message of something else is ahead of it.
		first := 1 + strings.Count(x.words, "none")
		for _, space := range []bool{false, true} {
			w := w.words(x.words)
			plan := fault(api.OpWrite, first)
			plan.Faults[0].Space = space
			r := w.run(t, plan)
			errno := map[bool]int{false: 3, true: 18}[space]
			what := fmt.Sprintf("%s, %v", x.words, plan.Faults)
			want(t, what+": diagnostics", strings.HasSuffix(r.errs, fmt.Sprintf("%s: output: errno %d\n", w.argv[0], errno)), true)
			want(t, what+": lines of diagnostics", strings.Count(r.errs, "\n"), first)
			want(t, what+": put out", r.out, "")
			want(t, what+": status", r.status, 1)
			want(t, what+": why", r.why, api.OK)
			want(t, what+": left open", r.stats.Open, 0)
			if x.words == "head b a" || x.words == "uniq b" || x.words == "cut -b 1- b a" || x.words == "comm b a" {
				continue
			}
			want(t, what+": calls", w.traceUnder(t, plan), x.trace)
		}
	}
}

// P14.4: a later Write refused; what was taken ahead of it stands, and nothing is tried behind it.
func TestLaterWriteRefused(t *testing.T) {
	block := strings.Repeat("1234567\n", 512)
	w := world{files: files{"a": block + block + "end\n", "b": "b\n"}}.words("cat a b")
	r := w.run(t, fault(api.OpWrite, 2))
	want(t, "put out", r.out == block, true)
	want(t, "diagnostics", r.errs, "cat: output: errno 3\n")
	want(t, "calls", w.traceUnder(t, fault(api.OpWrite, 2)), "open read write read write write close")
	w.outRoom = 5001
	r = w.run(t, api.FsConfig{})
	want(t, "as much as there is room for", r.out == (block + block)[:5000], true)
	want(t, "diagnostics", r.errs, "cat: output: errno 18\n")
	want(t, "status", r.status, 1)
	w.outRoom = 2*4096 + 7
	r = w.run(t, api.FsConfig{})
	want(t, "as much as there is room for", r.out == block+block+"end\nb\n", true)
	want(t, "diagnostics", r.errs, "")
	w.outRoom--
	r = w.run(t, api.FsConfig{})
	want(t, "at the end", r.out == block+block+"end\nb", true)
	want(t, "diagnostics", r.errs, "cat: output: errno 18\n")
	want(t, "status", r.status, 1)
	// Its own message may be refused.
	plan := fault(api.OpWrite, 1)
	plan.Faults = append(plan.Faults, api.Fault{Op: api.OpWrite, Nth: 2})
	w.outRoom = 0
	r = w.run(t, plan)
	want(t, "no diagnostics", r.errs, "")
	want(t, "status", r.status, 1)
	want(t, "left open", r.stats.Open, 0)
}

// P14.4: uniq's second operand is written as what goes out is.
func TestSecondOperandRefused(t *testing.T) {
	w := world{files: files{"a": "a\nb\nb\n", "o": "old\n"}}
	r := w.words("uniq a o").run(t, fault(api.OpWrite, 1))
	want(t, "diagnostics", r.errs, "uniq: output: errno 3\n")
	want(t, "status", r.status, 1)
	want(t, "files", r.files, w.files.with("o", "").String())
	want(t, "left open", r.stats.Open, 0)
	w.room = api.FsConfig{Capacity: 9, Files: 2, Handles: 2}
	w.files = w.files.with("o", "")
	r = w.words("uniq a o").run(t, api.FsConfig{})
	want(t, "diagnostics", r.errs, "uniq: output: errno 18\n")
	want(t, "files", r.files, w.files.with("o", "a\nb").String())
	want(t, "what goes out", r.out, "")
}

// Messages: each is one Write, and whether it is taken doesn't matter.
func TestMessages(t *testing.T) {
	w := world{files: files{"a": "a\n"}}.words("cat none a none")
	w.calls(t, "open write open read read close open write write")
	r := w.run(t, fault(api.OpWrite, 1))
	want(t, "put out", r.out, "a\n")
	want(t, "diagnostics", r.errs, "cat: none: errno 12\n")
	want(t, "status", r.status, 1)
	w.errsRoom = 1
	r = w.run(t, api.FsConfig{})
	want(t, "put out", r.out, "a\n")
	want(t, "diagnostics", r.errs, "")
	want(t, "status", r.status, 1)
	// An operand stands in it as it is.
	w = world{argv: []string{"cat", "a\nb", "\xff\x00"}}
	w.ends(t, 1, "", "cat: a\nb: errno 12\ncat: \xff\x00: errno 10\n")
}
