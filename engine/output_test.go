package engine_test

import (
	"fmt"
	"math/rand"
	"slices"
	"strings"
	"testing"

	"mill/api"
)

// orders are words of options that order lines in many ways.
var orders = []string{"", "-r", "-s", "-u", "-k2,2", "-k2,2 -s", "-nr", "-u -k2,2n", "-f -u", "-rs -k1.2,1.2", "-t, -k2 -u", "-z", "-zu -k2", "-V", "-g -s", "-ru", "-M -u"}

// shapes are words of options of which the output must not hang.
var shapes = []string{
	"", "--lines=1", "--lines=2 --batch-size=2", "--lines=3 --batch-size=3 --pack", "-S20b --batch-size=4", "--lines=5 --parallel=3", "--lines=2 --parallel=2 --batch-size=2", "-S1b --batch-size=64 -T x.y",
	"--lines=7 --pack --parallel=16", "-S40b --parallel=2 --pack --batch-size=2", "--lines=1000000 -S9b",
}

// somewhere is words that say where the output goes, and whether there is a checkpoint.
var somewhere = []string{"", "-o out", "-o out --checkpoint ck", "-o a"}

// text makes lines of any bytes, some of them alike; each behind the other ends with the separator, but perhaps the last.
func text(r *rand.Rand, many int, sep byte) string {
	pieces := []string{"a", "b", "B", "aa", " ", "\t", ",", "1", "2", "10", "-3", "jan", "Feb", "\x00", "\n", "\xff", "x y", "zz z", "1e3"}
	var b strings.Builder
	for range many {
		for range r.Intn(4) {
			b.WriteString(pieces[r.Intn(len(pieces))])
		}
		b.WriteByte(sep)
	}
	s := b.String()
	if len(s) > 0 && r.Intn(2) == 0 {
		s = s[:len(s)-1]
	}
	return s
}

// mixed makes a world of any inputs, the words of which begin with these; many is how many lines an input has, at most.
func mixed(r *rand.Rand, words string, many int) world {
	sep := byte('\n')
	if strings.Contains(words, "z") {
		sep = 0
	}
	w := world{files: files{"a": text(r, r.Intn(many), sep), "b": text(r, r.Intn(many), sep), "c": text(r, many, sep)}, stdin: text(r, r.Intn(many), sep)}
	operands := []string{"a", "b", "c", "a b", "c a b", "a a", "b c a a c"}
	if !strings.Contains(words, "--checkpoint") {
		operands = append(operands, "", "-", "a - b", "- -", "c - - a")
	}
	w.words = words + " " + operands[r.Intn(len(operands))]
	return w
}

// enough is the room with which the document says that there is room for a world's job in so many lives.
func enough(t *testing.T, w world, lives int) api.FsConfig {
	t.Helper()
	o := options(t, w.words)
	if o.Fan == 0 {
		o.Fan = 16
	}
	inputs := o.Files
	if len(inputs) == 0 {
		inputs = []string{"-"}
	}
	start, bytes, lines := 0, 0, model(t, w).stats.Lines
	for _, data := range w.files {
		start += len(data)
	}
	for i, name := range inputs {
		if name != "-" {
			bytes += len(w.files[name])
		} else if slices.Index(inputs, "-") == i {
			bytes += len(w.stdin)
		}
	}
	return api.FsConfig{
		Capacity: start + 5*bytes + 2000*lines + 300*(len(inputs)+lives) + 4000,
		Files:    len(w.files) + lines + len(inputs) + 10,
		Handles:  o.Fan + 3,
	}
}

// W1, W2, P12.4: where there is room a sort gives the model's output, and the same whatever shapes it has, and however reads come. P12.16: and the counts are those of the document.
func TestSort(t *testing.T) {
	r := rand.New(rand.NewSource(1))
	for _, order := range orders {
		for _, shape := range shapes {
			for _, to := range somewhere {
				w := mixed(r, strings.Join([]string{order, shape, to}, " "), 3+r.Intn(25))
				m := model(t, w)
				w.room = enough(t, w, 1)
				for _, short := range [][]int{nil, {1}, {3, 1, 700}} {
					w.comes(t, fmt.Sprintf("%s, short %v", w.words, short), w.run(t, api.FsConfig{Short: short}), m)
				}
			}
		}
	}
}

// W2: one input, all shapes: one answer.
func TestOneAnswer(t *testing.T) {
	r := rand.New(rand.NewSource(2))
	for _, order := range orders {
		sep := byte('\n')
		if strings.Contains(order, "z") {
			sep = 0
		}
		w := world{files: files{"a": text(r, 30, sep), "b": text(r, 11, sep)}}
		w.words = order + " a b"
		wanted := w.ok(t).out
		for _, shape := range shapes {
			w.words = order + " " + shape + " a b"
			want(t, w.words, w.ok(t).out, wanted)
			w.words = order + " " + shape + " --checkpoint ck -o out a b"
			got, _ := w.ok(t).fs.Look("out")
			want(t, w.words, string(got), wanted)
		}
	}
}

// Lines that are long, up to the longest that may be, go through spill files of many blocks.
func TestLongLines(t *testing.T) {
	for _, words := range []string{"", "--lines=1", "--lines=1 --pack", "--lines=2 --parallel=2", "--checkpoint ck -o out --lines=1", "-m"} {
		w := world{files: files{"a": strings.Repeat("b", 65536) + "\n" + strings.Repeat("b", 65535) + "\n" + strings.Repeat("a", 1000)}, words: words + " a"}
		w.room = enough(t, w, 1)
		w.comes(t, words, w.ok(t), model(t, w))
	}
}

// W8, P12.4: a merge of inputs that are in order is a sort of them, whatever its fan. P12.8: of any inputs it is what the steps make of them.
func TestMerge(t *testing.T) {
	r := rand.New(rand.NewSource(3))
	for _, order := range orders {
		for _, shape := range shapes {
			for _, to := range []string{"", "-o out", "-o a"} {
				w := mixed(r, strings.Join([]string{"-m", order, shape, to}, " "), 12)
				w.room = enough(t, w, 0)
				w.comes(t, w.words, w.run(t, api.FsConfig{Short: []int{7}}), model(t, w))
				sorted := w.sorted(t, order)
				m := model(t, sorted)
				sorted.comes(t, sorted.words, sorted.ok(t), m)
				asSort := sorted
				asSort.words = strings.Replace(sorted.words, "-m", "", 1)
				want(t, sorted.words+": as a sort", m.out, model(t, asSort).out)
			}
		}
	}
}

// sorted gives the world with each file, and the standard input, in order.
func (w world) sorted(t *testing.T, order string) world {
	t.Helper()
	s := files{}
	// With -u lines that are alike may stand side by side in a sequence.
	order = strings.ReplaceAll(strings.ReplaceAll(order, "-u", "-s"), "u", "s")
	for name := range w.files {
		s[name] = world{files: w.files, words: order + " " + name}.ok(t).out
	}
	in := world{words: order, stdin: w.stdin}.ok(t).out
	return world{files: s, words: w.words, stdin: in}
}

// W8: without -u a merge of any files gives all their lines, in some order.
func TestMergeOfAny(t *testing.T) {
	r := rand.New(rand.NewSource(4))
	for range 100 {
		w := mixed(r, "-m --batch-size=2", 10)
		got := w.ok(t).out
		all := model(t, world{files: w.files, words: strings.Replace(w.words, "-m", "", 1), stdin: w.stdin}).out
		a, b := strings.Split(got, "\n"), strings.Split(all, "\n")
		slices.Sort(a)
		slices.Sort(b)
		wantList(t, w.words, a, b)
	}
}

// W8: many inputs, more than a fan of any size takes.
func TestMergeOfMany(t *testing.T) {
	w := world{files: files{}}
	for i := range 128 {
		name := fmt.Sprintf("f%03d", i)
		w.files[name] = fmt.Sprintf("%d\n%d\n", 100+i*37%128, 300+i)
		w.words += " " + name
	}
	names := w.words
	for _, words := range []string{"-m", "-m --batch-size=2", "-m --batch-size=63 -r", "-m --batch-size=64 -u -k1.1,1.1", "-m --batch-size=7 -o out", "--lines=1", "--lines=1 --batch-size=2", "--lines=1 --batch-size=64 --checkpoint ck -o out"} {
		w.words = words + names
		w.room = enough(t, w, 1)
		w.comes(t, words, w.ok(t), model(t, w))
	}
}

// P12.5: as long as all lines fit nothing is spilled; with one more there are runs. A line costs its bytes and one more, and one alone always fits.
func TestInMemory(t *testing.T) {
	for words, most := range map[string]int{"": 50, "--lines=5": 5, "--lines=1": 1, "-S10b": 5, "-S11b": 5, "-S1b": 1, "-S2b --lines=4": 1, "--lines=3 -S9b": 3, "--lines=9 --parallel=2": 9, "-S8b --parallel=3 --pack": 4, "-u --lines=2": 2} {
		for n := range 12 {
			for _, to := range []string{"", " -o out"} {
				w := world{files: files{"a": strings.Repeat("x\n", n)}, words: words + to + " a"}
				r := w.ok(t)
				want(t, fmt.Sprintf("%s, %d lines: runs", w.words, n), r.stats.Runs > 0, n > most)
				want(t, fmt.Sprintf("%s, %d lines: steps", w.words, n), r.stats.Passes > 0, n > most)
				if n <= most {
					want(t, fmt.Sprintf("%s, %d lines: lines that were held", w.words, n), r.stats.Resident, n)
					want(t, fmt.Sprintf("%s, %d lines: files made", w.words, n), r.fs.Stats().Made, len(to)/7)
				}
			}
		}
	}
}
