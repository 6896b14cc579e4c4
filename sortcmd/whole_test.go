package sortcmd_test

import (
	"fmt"
	"math/rand"
	"regexp"
	"slices"
	"strings"
	"testing"

	"mill/api"
	"mill/simfs"
)

// orders are options that say how lines are ordered.
var orders = []string{"", "-r", "-n", "-g", "-h", "-V", "-M", "-d", "-f", "-b", "-i", "-s", "-u", "-sr", "-fu", "-nr", "-k2", "-k2,2n -k1r", "-t, -k2", "-k1.2,1.3 -u", "-nu", "-z", "-zr", "-k2b,3 -s", "-fs"}

// means are options that must not tell in what is put out.
var means = []string{
	"", "--lines=1", "--lines=2 --batch-size=2", "--lines=3 --pack", "--lines=7 --batch-size=64", "-S 5b --batch-size=3", "-S 40b -T tmp", "-S 1M --parallel=2",
	"--lines=2 --parallel=3", "--lines=1 --batch-size=2 --parallel=16 --pack", "-S 9b --parallel=4 --batch-size=2",
}

// W1, W2: the output is the model's, whatever the order, the budget, the fan-in, the workers, the packing, short reads, a checkpoint.
func TestSort(t *testing.T) {
	r := rand.New(rand.NewSource(131))
	for _, order := range orders {
		for range 3 {
			w := world{files: files{"a": anyLines(r, 200), "b": anyLines(r, 60), "c": ""}, stdin: anyLines(r, 90)}
			for i, how := range means {
				for _, where := range []string{"a - b", "a b a c", "-o out b a", "-o a a b a", "--checkpoint ck -o out a b"} {
					w := w.words(order + " " + how + " " + where)
					plan := api.FsConfig{Short: [][]int{nil, {1}, {3, 70, 1}}[i%3]}
					w.comes(t, fmt.Sprintf("%q, %q", w.argv, w.files), w.run(t, plan), w.model(t))
				}
			}
		}
	}
}

// W1: a line of the greatest length, many empty ones, and none.
func TestSortExtremes(t *testing.T) {
	long := strings.Repeat("y", api.MaxLine)
	w := world{files: files{"a": long + "\n" + long[1:] + "\nx\n" + long, "e": strings.Repeat("\n", 3000), "n": "", "1": "\n"}}
	for _, how := range means[:6] {
		for _, words := range []string{"a", "-r a e", "-u e a", "n", "n n", "-o n n", "1", "-o out 1 n", "--checkpoint ck -o a a"} {
			w := w.words(how + " " + words)
			// As many runs as lines are more than there may be files.
			if strings.Contains(words, "e") && strings.ContainsAny(how, "12S") {
				continue
			}
			w.comes(t, how+" "+words, w.run(t, api.FsConfig{}), w.model(t))
		}
	}
}

// oneLine are diagnostics of an error.
var oneLine = regexp.MustCompile(`^sort: [^\n]+\n$`)

// allOrNothing tells that a call is done, or has ended with a status of its own and left all as it was.
func (w world) allOrNothing(t *testing.T, what string, r result, m modelled, status int) {
	t.Helper()
	if r.status == 0 {
		w.comes(t, what, r, m)
		return
	}
	w.stops(t, what, r, m, status, r.errs)
	want(t, what+": one line of diagnostics", oneLine.MatchString(r.errs), true)
}

// lost lets diagnostics be lost: their own Write may be one of those that are refused.
func (r result) lost() result {
	if r.status == 2 && r.errs == "" {
		r.errs = "sort: lost\n"
	}
	return r
}

// W3: each call but Removes refused, and each with another one behind it.
func TestCallsRefused(t *testing.T) {
	for _, w := range jobs() {
		m := w.model(t)
		by := w.run(t, api.FsConfig{}).fs.Stats().By
		for op := range api.Op(api.Ops) {
			for nth := 1; op != api.OpRemove && nth <= by[op]+1; nth++ {
				plan := fault(op, nth)
				r := w.run(t, plan)
				what := fmt.Sprintf("%q, %v", w.argv, plan.Faults)
				w.allOrNothing(t, what, r, m, 2)
				want(t, what+": a device error or none", r.status == 0 || strings.HasPrefix(r.errs, "sort: device error"), true)
				if op == api.OpWrite {
					plan.Faults[0].Space = true
					r := w.run(t, plan)
					w.allOrNothing(t, what+", space", r, m, 2)
					want(t, what+": no space or none", r.status == 0 || r.errs == "sort: no space left\n", true)
				}
				for _, second := range []api.Op{api.OpClose, api.OpSync} {
					plan := fault(op, nth)
					for more := range 4 {
						plan.Faults = append(plan.Faults, api.Fault{Op: second, Nth: nth + more})
					}
					w.allOrNothing(t, fmt.Sprintf("%q, %v", w.argv, plan.Faults), w.run(t, plan).lost(), m, 2)
				}
			}
		}
	}
}

// W3: any calls refused, some short, in any room.
func TestAnyFaults(t *testing.T) {
	r := rand.New(rand.NewSource(133))
	for range 300 {
		for _, w := range jobs() {
			plan := api.FsConfig{Short: []int{1 + r.Intn(9)}}
			for range r.Intn(4) {
				op := []api.Op{api.OpOpen, api.OpRead, api.OpWrite, api.OpSync, api.OpClose, api.OpRename, api.OpStat}[r.Intn(7)]
				plan.Faults = append(plan.Faults, api.Fault{Op: op, Nth: 1 + r.Intn(20), Space: op == api.OpWrite && r.Intn(2) == 0})
			}
			w.room = api.FsConfig{Capacity: 60 + r.Intn(300), Files: 6 + r.Intn(8), Handles: 1 + r.Intn(5)}
			w.allOrNothing(t, fmt.Sprintf("%q, %v, %v", w.argv, plan, w.room), w.run(t, plan).lost(), w.model(t), 2)
		}
	}
}

// W3: every limit of the system: what ends the job below, and nothing any more from some room on.
func TestLimits(t *testing.T) {
	for _, w := range jobs() {
		m, used := w.model(t), 0
		for _, data := range w.files {
			used += len(data)
		}
		for _, x := range []struct {
			errs string
			from int
			set  func(n int)
		}{
			{"no space left", used, func(n int) { w.room.Capacity = n }},
			{"too many files", len(w.files), func(n int) { w.room.Files = n }},
			{"too many open files", 1, func(n int) { w.room.Handles = n }},
		} {
			w.room = api.FsConfig{Capacity: 1 << 20, Files: 100, Handles: 100}
			for n, done := x.from, 0; done < 3; n++ {
				x.set(n)
				what := fmt.Sprintf("%q, %v", w.argv, w.room)
				r := w.run(t, api.FsConfig{})
				w.allOrNothing(t, what, r, m, 2)
				if r.status == 0 {
					done++
					continue
				}
				want(t, what+": behind a wider one", done, 0)
				want(t, what, strings.HasPrefix(r.errs, "sort: "+x.errs), true)
			}
		}
	}
}

// W4: the interrupt at each call.
func TestInterrupts(t *testing.T) {
	for _, w := range jobs() {
		m := w.model(t)
		calls := w.run(t, api.FsConfig{}).fs.Stats().Calls
		for n := 1; n <= calls+1; n++ {
			what := fmt.Sprintf("%q, interrupted at call %d", w.argv, n)
			r := w.run(t, api.FsConfig{Interrupt: n})
			w.allOrNothing(t, what, r, m, 130)
			want(t, what+": diagnostics", r.status == 0 || r.errs == "sort: interrupted\n", true)
			if n == 1 {
				want(t, what, r.status, 130)
			}
		}
	}
}

// owned are the names that a job owns.
var owned = regexp.MustCompile(`^((mill|t)\.[0-9]{5}|ck|ck\.new)$`)

// survives tells that behind a loss of power all files of the world are as they were, but that the output may stand, whole; and that every other one is the job's own.
func (w world) survives(t *testing.T, what string, s *simfs.FS, m modelled) {
	t.Helper()
	now := held(s)
	for name, data := range w.files {
		if now[name] != data && (name != m.target || now[name] != m.out) {
			t.Fatalf("%s: %s is %q", what, name, now[name])
		}
	}
	for name, data := range now {
		if _, was := w.files[name]; !was && !owned.MatchString(name) && (name != m.target || data != m.out) {
			t.Fatalf("%s: %s is there: %q", what, name, data)
		}
	}
}

// life calls the command until the power is lost at a call; it tells whether it was.
func (w world) life(t *testing.T, what string, s *simfs.FS, cut, keep int, m modelled) bool {
	t.Helper()
	want(t, "Arm", s.Arm(api.FsConfig{Power: cut}), api.OK)
	r := w.on(s)
	if !s.Stats().Dark {
		w.comes(t, what, r, m)
		return false
	}
	want(t, what+": done or not", r.status == 0 || r.status == 2, true)
	want(t, what+": diagnostics in the dark", r.errs, "")
	want(t, "Reboot", s.Reboot(keep), api.OK)
	w.survives(t, what, s, m)
	return true
}

// W5: the power is lost at each call, and leaves any bytes.
func TestLossOfPower(t *testing.T) {
	for _, w := range jobs() {
		m := w.model(t)
		for cut, dark := 1, true; dark; cut++ {
			for _, keep := range []int{0, 1, cut % 40, 1000} {
				dark = w.life(t, fmt.Sprintf("%q, no power at call %d, %d bytes left", w.argv, cut, keep), w.system(t, api.FsConfig{}), cut, keep, m)
			}
		}
	}
}

// resumable are the jobs with a checkpoint.
func resumable() []world {
	return slices.DeleteFunc(jobs(), func(w world) bool { return !slices.Contains(w.argv, "--checkpoint") })
}

// W6: one loss of power, at each call; then the job is done.
func TestOneLoss(t *testing.T) {
	for _, w := range resumable() {
		m := w.model(t)
		for cut, dark := 1, true; dark; cut++ {
			for _, keep := range []int{0, 15, 24, 46, cut % 70, 100000} {
				what := fmt.Sprintf("%q, no power at call %d, %d bytes left", w.argv, cut, keep)
				s := w.system(t, api.FsConfig{})
				if dark = w.life(t, what, s, cut, keep, m); dark {
					w.life(t, what, s, 0, 0, m)
				}
			}
		}
	}
}

// W6: many losses.
func TestManyLosses(t *testing.T) {
	r := rand.New(rand.NewSource(136))
	for _, w := range resumable() {
		m := w.model(t)
		for range 150 {
			s := w.system(t, api.FsConfig{})
			what, dark := fmt.Sprintf("%q, no power at calls", w.argv), true
			for lives := r.Intn(12); dark && lives > 0; lives-- {
				cut, keep := 1+r.Intn(60), r.Intn(80)
				what += fmt.Sprintf(" %d (%d bytes left)", cut, keep)
				dark = w.life(t, what, s, cut, keep, m)
			}
			if dark {
				w.life(t, what, s, 0, 0, m)
			}
		}
	}
}

// W7: check's status is 0 just if the input is in order, else 1, and -c names the first line that is not; what sort gives is in order.
func TestCheck(t *testing.T) {
	r := rand.New(rand.NewSource(137))
	told := map[int]int{}
	for _, order := range orders {
		for range 40 {
			w := world{files: files{"a": anyLines(r, 12)}, stdin: anyLines(r, 12)}
			for _, how := range []string{"-c a", "-C a", "-c", "-C -"} {
				w := w.words(order + " " + how)
				m := w.model(t)
				told[m.status]++
				w.ends(t, m.status, "", m.errs)
			}
			sorted := w.words(order+" -o a a").run(t, api.FsConfig{})
			want(t, "sort", sorted.status, 0)
			w.files = held(sorted.fs)
			for _, how := range []string{" -c a", " -C a", " -c --lines=1 a"} {
				w.words(order+how).ends(t, 0, "", "")
			}
		}
	}
	if told[0] < 500 || told[1] < 500 {
		t.Errorf("how often each status: %v", told)
	}
}

// W7: a check whose calls are refused, or that is interrupted.
func TestCheckRefused(t *testing.T) {
	for _, w := range checks() {
		m := w.model(t)
		clean := w.run(t, api.FsConfig{}).fs.Stats()
		name := w.argv[len(w.argv)-1]
		if strings.HasPrefix(name, "-") {
			name = "-"
		}
		for op := range api.Op(api.Ops) {
			for nth := 1; nth <= clean.By[op]; nth++ {
				r := w.run(t, fault(op, nth))
				what := fmt.Sprintf("%q, %v refused", w.argv, fault(op, nth).Faults)
				switch {
				case op == api.OpWrite:
					// That of the diagnostics.
					w.stops(t, what, r, m, 1, "")
				case r.status == 1:
					// The disorder had been found.
					w.stops(t, what, r, m, 1, m.errs)
				default:
					w.stops(t, what, r, m, 2, "sort: device error: "+name+"\n")
				}
			}
		}
		for n := 1; n <= clean.Calls; n++ {
			r := w.run(t, api.FsConfig{Interrupt: n})
			if r.status == 130 {
				w.stops(t, "interrupted", r, m, 130, "sort: interrupted\n")
			} else {
				w.stops(t, "interrupted too late", r, m, m.status, m.errs)
			}
		}
	}
}

// W8: a merge of files that are in order gives what sort of them gives; one of any files, without -u, all their lines.
func TestMerge(t *testing.T) {
	r := rand.New(rand.NewSource(138))
	for _, order := range orders {
		for i := range 20 {
			w := world{files: files{}}
			for _, name := range []string{"a", "b", "c", "d", "e"} {
				w.files[name] = anyLines(r, 40)
			}
			any := w.words(order + " -m a b c d e")
			any.permutes(t)
			for name := range w.files {
				w.files = held(w.words(order+" -o "+name+" "+name).run(t, api.FsConfig{}).fs)
			}
			w.stdin, w.files["e"] = w.files["e"], ""
			for _, how := range []string{"", "--batch-size=2", "--batch-size=3 --pack", "--batch-size=2 -o out", "-o b"} {
				w := w.words(order + " -m " + how + " a b c d e -")
				w.comes(t, fmt.Sprintf("%q, %q, %q", w.argv, w.files, w.stdin), w.run(t, api.FsConfig{Short: []int{1 + i, 9}}), w.model(t))
			}
		}
	}
}

// permutes tells that a merge of any files puts out all their lines and no others.
func (w world) permutes(t *testing.T) {
	t.Helper()
	if slices.ContainsFunc(w.argv, func(word string) bool { return strings.HasPrefix(word, "-") && strings.Contains(word, "u") }) {
		return
	}
	r := w.run(t, api.FsConfig{})
	want(t, "status", r.status, 0)
	sep := "\n"
	if slices.ContainsFunc(w.argv, func(word string) bool { return strings.HasPrefix(word, "-z") }) {
		sep = "\x00"
	}
	lines := func(datas ...string) string {
		var l []string
		for _, data := range datas {
			if data != "" {
				l = append(l, strings.Split(strings.TrimSuffix(data, sep), sep)...)
			}
		}
		slices.Sort(l)
		return fmt.Sprintf("%q", l)
	}
	want(t, fmt.Sprintf("%q: lines", w.argv), lines(r.out), lines(w.files["a"], w.files["b"], w.files["c"], w.files["d"], w.files["e"]))
	w.unchanged(t, "merge", r.fs)
}

// R5: the same call answers the same, also beside others.
func TestSideBySide(t *testing.T) {
	w := world{files: files{"a": each("d b d a c"), "b": each("a e")}}
	for _, words := range []string{"--lines=2 --parallel=3 --batch-size=2 --checkpoint ck -o out a b", "--lines=2 --parallel=4 a b a", "-c a", "missing", "-q"} {
		w := w.words(words)
		once := w.run(t, api.FsConfig{})
		done := make(chan result)
		for range 8 {
			s := w.system(t, api.FsConfig{})
			go func() { done <- w.on(s) }()
		}
		for range 8 {
			r := <-done
			want(t, words+": stats", r.fs.Stats(), once.fs.Stats())
			want(t, words+": files", held(r.fs).String(), held(once.fs).String())
			r.fs = once.fs
			want(t, words, r, once)
		}
	}
}
