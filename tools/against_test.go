package tools_test

import (
	"math/rand"
	"slices"
	"strings"
	"testing"

	"mill/api"
)

// names are the ten.
var names = []string{"cat", "head", "tail", "wc", "uniq", "comm", "join", "cut", "tee", "echo"}

// pick gives one of some things.
func pick[T any](r *rand.Rand, l ...T) T { return l[r.Intn(len(l))] }

// anyText gives lines of few bytes, some of them alike, perhaps the last one bare; rarely long ones.
func anyText(r *rand.Rand) string {
	var b strings.Builder
	for range r.Intn(pick(r, 1, 4, 12, 30)) {
		for range r.Intn(4) {
			b.WriteString(pick(r, "a", "A", "b", "B", "c", " ", " ", "\t", ",", "\r", "\v", "\f", "\x00", "\xff", "é", "10", "-"))
		}
		if r.Intn(40) == 0 {
			b.WriteString(strings.Repeat("x", pick(r, 4094, 4095, 4096, 9000)))
		}
		b.WriteString("\n")
	}
	if r.Intn(3) == 0 {
		b.WriteString(pick(r, "a", "b c", " ", "\x00"))
	}
	return b.String()
}

// sortedText gives lines that are sorted by their bytes.
func sortedText(r *rand.Rand) string {
	l := strings.SplitAfter(anyText(r), "\n")
	slices.Sort(l)
	return strings.TrimPrefix(strings.Join(l, ""), "\n")
}

// lettersOf are the letters of a tool that are tried, and some that it has not.
var lettersOf = map[string]string{"cat": "ns", "head": "nc", "tail": "nc", "wc": "lwc", "uniq": "cdiufsw", "comm": "123", "join": "12tav", "cut": "bcfds", "tee": "a", "echo": "n"}

// anyWords gives words for a tool; most of them are as they must be.
func anyWords(r *rand.Rand, name string) []string {
	argv := []string{name}
	for range r.Intn(4) {
		letters := lettersOf[name]
		letter := letters[r.Intn(len(letters))]
		if name == "cut" && r.Intn(2) == 0 {
			letter = 'f'
		}
		word := "-" + string(letter)
		if specs[name][string(letter)] == nil {
			if r.Intn(4) == 0 {
				word += string(letters[r.Intn(len(letters))])
			}
			argv = append(argv, word)
			continue
		}
		value := pick(r, "1", "2", "3", "0", "+2", "007", "99999999999999999999", "1-2", "-2", "2-", "1,3-4", "4,2-3,1-", ",", " ", "\t", "b", "", "x", "12", "30")
		switch letter {
		case 'n', 's', 'w':
			value = pick(r, "0", "1", "2", "3", "5", value)
		case 'a', 'v', '1', '2':
			value = pick(r, "1", "2", value)
		case 't', 'd':
			value = pick(r, " ", ",", "a", "\xff", value)
		case 'b', 'f', 'c':
			value = pick(r, "1", "2-", "-3", "1,3", "2,2-5,4-", value)
		}
		if r.Intn(2) == 0 {
			argv = append(argv, word, value)
		} else {
			argv = append(argv, word+value)
		}
	}
	if r.Intn(20) == 0 {
		argv = append(argv, pick(r, "-z", "--", "-", "-n", "--n", "-5", "-:", "-\xff"))
	}
	many := pick(r, 0, 1, 1, 2, 2, 3)
	if name == "comm" || name == "join" {
		many = pick(r, 2, 2, 2, 2, 2, 2, 2, 1, 3)
	}
	for range many {
		argv = append(argv, pick(r, "a", "b", "c", "d", "a", "b", "-", "-", "none", "", "x\ny"))
	}
	return argv
}

// anyWorld gives a run of a tool.
func anyWorld(r *rand.Rand, name string) world {
	text := anyText
	if (name == "comm" || name == "join") && r.Intn(4) > 0 {
		text = sortedText
	}
	return world{argv: anyWords(r, name), stdin: text(r), files: files{"a": text(r), "b": text(r), "c": text(r), "d": ""}}
}

// alike tells that the tool and the model do the same under a plan.
func (w world) alike(t *testing.T, plan api.FsConfig) result {
	t.Helper()
	got := w.run(t, plan)
	w.how = model
	wanted := w.run(t, plan)
	if got != wanted {
		t.Fatalf("%q, plan %+v, stdin %q, files %q:\n%v, want\n%v", w.argv, plan, short(w.stdin), w.files, got, wanted)
	}
	return got
}

// All promises: any words and files, against the model.
func TestAnyRun(t *testing.T) {
	for i, name := range names {
		t.Run(name, func(t *testing.T) {
			t.Parallel()
			r := rand.New(rand.NewSource(int64(1400 + i)))
			statuses := map[int]int{}
			for range 1500 {
				w := anyWorld(r, name)
				got := w.alike(t, api.FsConfig{Short: [][]int{nil, {1 + r.Intn(3), 600}, {5000, 7}}[r.Intn(3)]})
				statuses[got.status]++
			}
			if name != "echo" && (statuses[0] < 100 || statuses[1] < 100 || statuses[2] < 20) {
				t.Errorf("how often each status: %v", statuses)
			}
		})
	}
}

// anyPlan refuses some calls.
func anyPlan(r *rand.Rand, calls int) api.FsConfig {
	plan := api.FsConfig{}
	for range r.Intn(5) {
		op := pick(r, api.OpOpen, api.OpRead, api.OpRead, api.OpWrite, api.OpWrite, api.OpClose)
		plan.Faults = append(plan.Faults, api.Fault{Op: op, Nth: 1 + r.Intn(6), Space: op == api.OpWrite && r.Intn(2) == 0})
	}
	if r.Intn(3) == 0 {
		plan.Interrupt = 1 + r.Intn(calls+1)
	}
	if r.Intn(3) == 0 {
		plan.Power = 1 + r.Intn(calls+1)
	}
	if r.Intn(2) == 0 {
		plan.Short = []int{1 + r.Intn(9), 4096}
	}
	return plan
}

// P14.3 to P14.6: any calls refused, the interrupt and a loss of power at any call, in any room, against the model.
func TestAnyPlan(t *testing.T) {
	for i, name := range names {
		t.Run(name, func(t *testing.T) {
			t.Parallel()
			r := rand.New(rand.NewSource(int64(1410 + i)))
			whys := map[api.Errno]int{}
			for range 400 {
				w := anyWorld(r, name)
				calls := w.run(t, api.FsConfig{}).stats.Calls
				for range 8 {
					whys[w.tight(r).alike(t, anyPlan(r, calls)).why]++
				}
			}
			if whys[api.OK] < 100 || whys[api.ErrPower] < 100 || name != "echo" && whys[api.ErrStop] < 50 {
				t.Errorf("how often each end: %v", whys)
			}
		})
	}
}

// tight gives the world, sometimes with little room.
func (w world) tight(r *rand.Rand) world {
	if r.Intn(3) > 0 {
		return w
	}
	used := 0
	for _, data := range w.files {
		used += len(data)
	}
	w.room = api.FsConfig{Capacity: used + r.Intn(40)*r.Intn(400), Files: 4 + r.Intn(2), Handles: 1 + r.Intn(3)}
	w.outRoom, w.errsRoom = 1+r.Intn(9000), r.Intn(30)
	return w
}

// fixed are runs that go a long way: several files, all columns, more put out than fits into one piece.
func fixed() []world {
	long := strings.Repeat("x", 3000)
	w := world{
		stdin: "a\nb\nb\n" + long + "\nc d\nz",
		files: files{"a": "a\n\n\nb " + long + "\nb c\nb d\nc", "b": "a\nb " + long + "\nb e\nb f\nx y\n", "o": "old\n"},
	}
	var l []world
	for _, words := range []string{
		"cat a - b", "cat -ns a none b l b", "head a - none b", "head -c 3500 a b b", "head -n 0 a -", "tail a b -", "tail -c +3 a l b", "tail -n 1 a none b",
		"wc a none - b", "wc -l l a", "uniq", "uniq -c a", "uniq -c -w 1 a o", "uniq -w 1 - new", "uniq l o", "uniq a none\x00", "comm a b", "comm -2 - b", "comm a l", "comm none a", "comm a none",
		"join a b", "join -a 1 -a 2 a b", "join -v 1 b -", "join l a", "cut -b 2-4000 a b", "cut -f 1 -d x a - l", "tee o new", "tee -a o new o", "tee", "echo a b", "echo -n", "cat -x", "cut -f 1 -b 1",
	} {
		w := w.words(words)
		if slices.Contains(w.argv, "l") {
			w.files = w.files.with("l", "a\n"+strings.Repeat("y", 65537)+"\nb\n")
		}
		l = append(l, w)
	}
	return l
}

// eachFixed does something with each of the fixed runs.
func eachFixed(t *testing.T, do func(t *testing.T, w world)) {
	for _, w := range fixed() {
		t.Run(strings.Join(w.argv, " "), func(t *testing.T) {
			t.Parallel()
			do(t, w)
		})
	}
}

// P14.6: the interrupt and a loss of power at each call, against the model.
func TestEachStop(t *testing.T) {
	eachFixed(t, func(t *testing.T, w world) {
		calls := w.alike(t, api.FsConfig{}).stats.Calls
		for n := 1; n <= calls+1; n++ {
			w.alike(t, api.FsConfig{Interrupt: n})
			for later := range 4 {
				w.alike(t, api.FsConfig{Interrupt: n, Power: n + later})
			}
		}
	})
}

// P14.3 to P14.6: each call refused, by itself, with another one, and with an interrupt or a loss of power at each other call, against the model.
func TestEachRefusal(t *testing.T) {
	eachFixed(t, func(t *testing.T, w world) {
		clean := w.alike(t, api.FsConfig{}).stats
		var all []api.Fault
		for op := range api.Op(api.Ops) {
			for nth := 1; nth <= clean.By[op]+2 && nth <= 7; nth++ {
				all = append(all, api.Fault{Op: op, Nth: nth})
				if op == api.OpWrite {
					all = append(all, api.Fault{Op: op, Nth: nth, Space: true})
				}
			}
		}
		for i, f := range all {
			calls := w.alike(t, api.FsConfig{Faults: []api.Fault{f}}).stats.Calls
			for n := 1; n <= calls+1; n++ {
				w.alike(t, api.FsConfig{Faults: []api.Fault{f}, Interrupt: n})
				w.alike(t, api.FsConfig{Faults: []api.Fault{f}, Power: n})
			}
			for _, g := range all[:i] {
				w.alike(t, api.FsConfig{Faults: []api.Fault{f, g}})
			}
		}
	})
}

// P14.4: each room of what goes out, and of the diagnostics, against the model.
func TestEachRoom(t *testing.T) {
	eachFixed(t, func(t *testing.T, w world) {
		whole := w.run(t, api.FsConfig{})
		used := 0
		for _, data := range w.files {
			used += len(data)
		}
		for _, room := range []int{0, 1, 2, 3, len(whole.out) / 2, len(whole.out) - 1, len(whole.out), 4095, 4096, 4097, 8192} {
			for _, errsRoom := range []int{0, 1, 5, len(whole.errs), len(whole.errs) + 1} {
				w := w
				w.outRoom, w.errsRoom = max(room, 0)+1, errsRoom
				w.alike(t, api.FsConfig{})
				w.room = api.FsConfig{Capacity: used + max(room, 0), Files: len(w.files), Handles: 2}
				w.alike(t, api.FsConfig{})
			}
		}
	})
}
