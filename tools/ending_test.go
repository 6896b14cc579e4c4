package tools_test

import (
	"fmt"
	"strings"
	"testing"

	"mill/api"
	"mill/tools"
)

// P14.5: the status is the greatest of those that were named on the way.
func TestStatus(t *testing.T) {
	w := world{files: files{"a": "a\n"}}
	w.words("cat none a").ends(t, 1, "a\n", "cat: none: errno 12\n")
	w.words("cat a none").ends(t, 1, "a\n", "cat: none: errno 12\n")
	w.words("wc -c none a none").ends(t, 1, "2 a\n2 total\n", "wc: none: errno 12\nwc: none: errno 12\n")
	w.words("cat a a").ends(t, 0, "a\na\n", "")
}

// stops tells how a run ends that is interrupted at a call.
func (w world) stops(t *testing.T, call int, wanted bool, out, trace string) {
	t.Helper()
	plan := api.FsConfig{Interrupt: call}
	r := w.run(t, plan)
	what := fmt.Sprintf("%q, interrupted at call %d", w.argv, call)
	status, why := 0, api.OK
	if wanted {
		status, why = 130, api.ErrStop
	}
	want(t, what+": status", r.status, status)
	want(t, what+": why", r.why, why)
	want(t, what+": put out", r.out, out)
	want(t, what+": diagnostics", r.errs, "")
	want(t, what+": left open", r.stats.Open, 0)
	want(t, what+": calls", w.traceUnder(t, plan), trace)
}

// P14.6: the interrupt is looked for ahead of each operand and of each line; nothing is flushed then.
func TestInterrupt(t *testing.T) {
	w := world{stdin: "i\nj\n", files: files{"a": "1\n2\n", "b": "3\n"}}
	cat := w.words("cat a b")
	cat.calls(t, "open read read close open read read close write")
	cat.stops(t, 1, true, "", "open close")
	cat.stops(t, 2, true, "", "open read close")
	cat.stops(t, 3, true, "", "open read read close")
	cat.stops(t, 4, true, "", "open read read close")
	cat.stops(t, 5, true, "", "open read read close open close")
	cat.stops(t, 6, true, "", "open read read close open read close")
	cat.stops(t, 7, false, "1\n2\n3\n", "open read read close open read read close write")
	cat.stops(t, 8, false, "1\n2\n3\n", "open read read close open read read close write")
	cat.stops(t, 9, false, "1\n2\n3\n", "open read read close open read read close write")
	// The line that is bare is not known to be the last one until there is no other.
	bare := w.words("cat -").input("i")
	bare.stops(t, 1, true, "", "read read")
	bare.stops(t, 2, true, "", "read read")
	bare.stops(t, 3, false, "i", "read read write")
	head := w.words("head -n 1 a")
	head.stops(t, 1, true, "", "open close")
	head.stops(t, 2, false, "1\n", "open read close write")
	w.words("head -n 0 a -").stops(t, 1, true, "", "open close")
	w.words("head -n 0 a").stops(t, 1, false, "", "open close")
	w.words("wc a b").stops(t, 3, true, "", "open read read close")
	w.words("wc a").stops(t, 3, false, "2 2 4 a\n", "open read read close write")
	w.words("tail -").stops(t, 2, false, "i\nj\n", "read read write")
	w.words("tail -").stops(t, 1, true, "", "read")
	w.words("uniq a new").stops(t, 1, true, "", "open close")
	w.words("uniq a new").stops(t, 2, true, "", "open open close close")
	w.words("uniq a new").stops(t, 3, true, "", "open open read close close")
	w.words("comm a b").stops(t, 1, true, "", "open close")
	w.words("comm a b").stops(t, 2, true, "", "open open close close")
	w.words("comm a b").stops(t, 3, true, "", "open open read close close")
	w.words("comm - a").stops(t, 1, true, "", "open close")
	w.words("join a b").stops(t, 4, true, "", "open open read read close close")
	w.words("cut -b 1 a b").stops(t, 4, true, "", "open read read close")
	w.words("tee x y").stops(t, 1, true, "", "open close")
	w.words("tee x y").stops(t, 2, true, "", "open open close close")
	w.words("tee x y").stops(t, 3, true, "", "open open read close close")
	w.words("tee x").stops(t, 3, false, "i\nj\n", "open read read write write close")
	w.words("echo a").stops(t, 1, false, "a\n", "write")
}

// P14.6: what had gone out stands; what had not does not.
func TestInterruptBetweenWrites(t *testing.T) {
	block := strings.Repeat("1234567\n", 512)
	w := world{files: files{"a": block + "x\n", "o": "old\n"}}
	r := w.words("cat a").run(t, api.FsConfig{Interrupt: 4})
	want(t, "status", r.status, 130)
	want(t, "put out", r.out == block, true)
	r = w.words("tee -a o").input(block+"x\ny\n").run(t, api.FsConfig{Interrupt: 5})
	want(t, "status", r.status, 130)
	want(t, "put out", r.out == block, true)
	want(t, "the file", r.files == w.files.with("o", "old\n"+block).String(), true)
	want(t, "left open", r.stats.Open, 0)
}

// P14.6: the interrupt that had come before; tools that ask for nothing don't see it.
func TestInterruptedBefore(t *testing.T) {
	for words, status := range map[string]int{
		"cat": 130, "cat -": 130, "cat a": 130, "cat none": 130, "head -n 0": 130, "head -n 0 a": 130, "tail": 130, "wc a": 130, "uniq": 130, "uniq a b": 130, "comm a -": 130, "join - a": 130, "cut -b 1": 130, "tee": 130, "tee x": 130,
		"echo": 0, "echo a": 0, "cat -x": 2, "comm a": 2, "cut": 2,
	} {
		w := world{files: files{"a": "1\n"}}.words(words)
		s := w.system(t, api.FsConfig{})
		s.Interrupt()
		r := w.on(s)
		want(t, words+": status", r.status, status)
		want(t, words+": why", r.why == api.ErrStop, status == 130)
		if status == 130 {
			want(t, words+": calls", r.stats.Calls, 0)
		}
	}
}

// P14.6: a loss of power at each call ends the tool without a further one; what it has taken stands.
func TestPower(t *testing.T) {
	w := world{stdin: "1\n2\n", files: files{"a": "1\n2\n", "b": "3\n"}}
	for _, words := range []string{"cat a none b", "head a b", "tail a", "wc a b", "uniq a new", "comm a b", "join a -", "cut -b 1 a", "tee x y", "echo a", "cut", "comm a none", "uniq a ''"} {
		w := w.words(words)
		calls := w.run(t, api.FsConfig{}).stats.Calls
		for n := 1; n <= calls; n++ {
			r := w.run(t, api.FsConfig{Power: n})
			what := fmt.Sprintf("%s, no power at call %d", words, n)
			want(t, what+": status", r.status, 0)
			want(t, what+": why", r.why, api.ErrPower)
			want(t, what+": calls", r.stats.Calls, n)
		}
		r := w.run(t, api.FsConfig{Power: calls + 1})
		want(t, words+": why", r.why, api.OK)
	}
}

// P14.6: the power goes while a tool ends: with a message of what goes out, with the Closes behind it and behind the interrupt.
func TestPowerWhileEnding(t *testing.T) {
	w := world{files: files{"a": "1\n", "b": "1\n"}}.words("comm a b")
	for _, x := range []struct {
		plan  api.FsConfig
		calls int
	}{
		{api.FsConfig{Interrupt: 2}, 4}, // open open close close
		{fault(api.OpRead, 1), 6},       // open open read write close close
		{fault(api.OpWrite, 1), 10},     // open open read read read read close close write write
	} {
		r := w.run(t, x.plan)
		want(t, "calls", r.stats.Calls, x.calls)
		for n := 1; n <= x.calls; n++ {
			plan := x.plan
			plan.Power = n
			r := w.run(t, plan)
			what := fmt.Sprintf("%+v", plan)
			want(t, what+": status", r.status, 0)
			want(t, what+": why", r.why, api.ErrPower)
			want(t, what+": calls", r.stats.Calls, n)
		}
	}
	// Stopped and dark, but no call is made that could tell of the dark.
	s := w.words("cat").system(t, api.FsConfig{})
	s.Interrupt()
	s.Cut()
	status, e := tools.Run(s, []string{"cat"}, s.Input(nil), s.Sink(-1), s.Sink(-1))
	want(t, "status", status, 130)
	want(t, "why", e, api.ErrStop)
}

// P14.5: several are closed in the order in which they were opened; but one of which a Read was refused is closed with that. In the dark Put still tells which files are open.
func TestCloseOrder(t *testing.T) {
	w := world{stdin: "1\n", files: files{"a": "1\n", "b": "1\n"}}
	for _, x := range []struct {
		words string
		plan  api.FsConfig
		close int // the power goes at this Close
		open  string
	}{
		{"comm a b", api.FsConfig{}, 1, "a b"},
		{"comm a b", api.FsConfig{}, 2, "b"},
		{"join b a", api.FsConfig{}, 2, "a"},
		{"comm a b", api.FsConfig{Interrupt: 2}, 2, "b"},
		{"comm a b", fault(api.OpWrite, 1), 2, "b"},
		{"comm a b", fault(api.OpRead, 1), 2, "b"},
		{"comm a b", fault(api.OpRead, 2), 2, "a"},
		{"join a b", fault(api.OpRead, 4), 2, "a"},
		{"uniq a b", api.FsConfig{}, 1, "a b"},
		{"uniq a b", api.FsConfig{}, 2, "b"},
		{"uniq a b", api.FsConfig{Interrupt: 2}, 2, "b"},
		{"uniq a b", fault(api.OpRead, 1), 2, "b"},
		{"tee b a", api.FsConfig{}, 2, "a"},
		{"tee b a", api.FsConfig{Interrupt: 2}, 2, "a"},
		{"tee b a", fault(api.OpWrite, 1), 2, "a"},
		{"tee b a", fault(api.OpWrite, 3), 2, "a"},
	} {
		w := w.words(x.words)
		calls := strings.Fields(w.traceUnder(t, x.plan))
		for i, closes := 0, 0; closes < x.close; i++ {
			if calls[i] == "close" {
				closes++
			}
			x.plan.Power = i + 1
		}
		s := w.system(t, x.plan)
		r := w.on(s)
		want(t, x.words+": why", r.why, api.ErrPower)
		var open []string
		for _, name := range s.Names() {
			if s.Put(name, nil) == api.ErrBusy {
				open = append(open, name)
			}
		}
		want(t, fmt.Sprintf("%s, %+v: still open", x.words, x.plan), strings.Join(open, " "), x.open)
	}
}
