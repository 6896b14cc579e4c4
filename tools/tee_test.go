package tools_test

import (
	"fmt"
	"strings"
	"testing"

	"mill/api"
)

// P14.12: words.
func TestEcho(t *testing.T) {
	w := world{stdin: "in\n", files: files{"a": "1\n"}}
	w.table(t, map[string]string{
		"echo": "\n", "echo a": "a\n", "echo a b": "a b\n", "echo -n": "", "echo -n a": "a", "echo -n a b": "a b", "echo -n -n": "-n", "echo a -n": "a -n\n", "echo -nn": "-nn\n", "echo -e a": "-e a\n", "echo --": "--\n", "echo -- -n": "-- -n\n", "echo -": "-\n",
		"echo ''": "\n", "echo '' ''": " \n", "echo -n ''": "", "echo -n '' a": " a", "echo '' -n": " -n\n", "echo -n --": "--", "echo -x -n": "-x -n\n", "echo a none": "a none\n",
	})
	for _, x := range []struct{ words, out string }{{"a\nb", "a\nb\n"}, {" -n", " -n\n"}, {"-n\x00", "-n\x00\n"}, {"\xff", "\xff\n"}, {"\\n", "\\n\n"}, {strings.Repeat("x", 1<<17), strings.Repeat("x", 1<<17) + "\n"}} {
		w.argv = []string{"echo", x.words}
		w.ends(t, 0, x.out, "")
	}
	w.argv = append([]string{"echo"}, strings.Fields(strings.Repeat("w ", 5000))...)
	w.ends(t, 0, strings.TrimSpace(strings.Repeat("w ", 5000))+"\n", "")
}

// tees tells what tee leaves: what it puts out is what comes in, if it is not told otherwise.
func (w world) tees(t *testing.T, plan api.FsConfig, out, errs string, f files) {
	t.Helper()
	r := w.run(t, plan)
	what := fmt.Sprintf("%q, %v", w.argv, plan.Faults)
	want(t, what+": put out", r.out, out)
	want(t, what+": diagnostics", r.errs, errs)
	want(t, what+": status", r.status, min(len(errs), 1))
	want(t, what+": why", r.why, api.OK)
	want(t, what+": files", r.files, f.String())
	want(t, what+": left open", r.stats.Open, 0)
}

// P14.16: what comes in goes out and into each file.
func TestTee(t *testing.T) {
	in := "1\n\n2\n\xff"
	w := world{stdin: in, files: files{"a": "old\n", "bare": "x"}}
	none := api.FsConfig{}
	w.words("tee").tees(t, none, in, "", w.files)
	w.words("tee a").tees(t, none, in, "", w.files.with("a", in))
	w.words("tee new").tees(t, none, in, "", w.files.with("new", in))
	w.words("tee new a").tees(t, none, in, "", w.files.with("new", in).with("a", in))
	w.words("tee -a a new bare").tees(t, none, in, "", w.files.with("a", "old\n"+in).with("new", in).with("bare", "x"+in))
	w.words("tee -").tees(t, none, in, "", w.files.with("-", in))
	w.words("tee - -").tees(t, none, in, "tee: -: errno 13\n", w.files.with("-", in))
	w.words("tee -- -a").tees(t, none, in, "", w.files.with("-a", in))
	w.words("tee a -a").tees(t, none, in, "", w.files.with("a", in).with("-a", in))
	w.words("tee a").input("").tees(t, none, "", "", w.files.with("a", ""))
	w.words("tee -a a").input("").tees(t, none, "", "", w.files)
	w.words("tee -a new").input("").tees(t, none, "", "", w.files.with("new", ""))
}

// P14.16: a file that can't be opened, or written, is left out.
func TestTeeLeavesOut(t *testing.T) {
	w := world{stdin: "1\n2\n", files: files{"a": "old\n"}}
	none := api.FsConfig{}
	w.words("tee '' x").tees(t, none, "1\n2\n", "tee: : errno 10\n", w.files.with("x", "1\n2\n"))
	w.words("tee x x y").tees(t, none, "1\n2\n", "tee: x: errno 13\n", w.files.with("x", "1\n2\n").with("y", "1\n2\n"))
	w.words("tee x y").tees(t, fault(api.OpOpen, 1), "1\n2\n", "tee: x: errno 3\n", w.files.with("y", "1\n2\n"))
	w.words("tee x y").tees(t, fault(api.OpWrite, 2), "1\n2\n", "tee: x: errno 3\n", w.files.with("x", "").with("y", "1\n2\n"))
	w.words("tee x y").tees(t, fault(api.OpWrite, 3), "1\n2\n", "tee: y: errno 3\n", w.files.with("x", "1\n2\n").with("y", ""))
	// What goes out is refused: nothing is flushed any more.
	w.words("tee x y").tees(t, fault(api.OpWrite, 1), "", "tee: output: errno 3\n", w.files.with("x", "").with("y", ""))
	want(t, "calls", w.words("tee x y").traceUnder(t, fault(api.OpWrite, 1)), "open open read read write write close close")
	want(t, "calls", w.words("tee x y").traceUnder(t, fault(api.OpWrite, 2)), "open open read read write write write close write close")
	want(t, "calls", w.words("tee x y").traceUnder(t, fault(api.OpOpen, 1)), "open write open read read write write close")
	// A Read is refused: what was read goes on its way.
	plan := readRefused(2)
	w.words("tee x").tees(t, plan, "1\n", "tee: -: errno 3\n", w.files.with("x", "1\n"))
	// In the midst: that file is closed at once, the others go on.
	block := strings.Repeat("1234567\n", 512)
	w = w.words("tee x y").input(block + block + "z\n")
	w.calls(t, "open open read write write write read write write write read read write write close write close")
	want(t, "calls", w.traceUnder(t, fault(api.OpWrite, 2)), "open open read write write write close write read write write read read write write close")
	w.tees(t, fault(api.OpWrite, 2), w.stdin, "tee: x: errno 3\n", w.files.with("x", "").with("y", w.stdin))
	w.tees(t, fault(api.OpWrite, 5), w.stdin, "tee: x: errno 3\n", w.files.with("x", block).with("y", w.stdin))
	w.tees(t, fault(api.OpWrite, 9), w.stdin, "tee: y: errno 3\n", w.files.with("x", w.stdin).with("y", block+block))
	w.room = api.FsConfig{Capacity: 4 + 4096 + 100, Files: 3, Handles: 2}
	w.tees(t, api.FsConfig{}, w.stdin, "tee: y: errno 18\ntee: x: errno 18\n", w.files.with("x", block+w.stdin[:0]).with("y", block[:100]))
}
