package sortcmd_test

import (
	"encoding/json"
	"fmt"
	"os"
	"os/exec"
	"path/filepath"
	"strings"
	"testing"

	"mill/api"
	"mill/sortcmd"
)

// brokenVar is the variable of the environment that names the test for which a layer was broken.
const brokenVar = "MILL_BROKEN"

// P13.5: a panic below. As no layer panics by itself, one that does is laid over it, and a test is run on that.
func TestPanicBelow(t *testing.T) {
	for _, x := range []struct{ test, file, was, is string }{
		{"TestBrokenCalls", "simfs/simfs.go", "return api.ErrIO\n", `panic("broken")` + "\n"},
		{"TestBrokenOrder", "collate/collate.go", "Keys(a string, b string) int {\n", `Keys(a string, b string) int { if a == "broken" || b == "broken" { panic(a) }` + "\n"},
		{"TestBrokenWords", "keyspec/keyspec.go", "Parse(argv []string) (api.Options, int, api.Errno) {\n", "Parse(argv []string) (api.Options, int, api.Errno) { argv = argv[1:]\n"},
	} {
		source, err := filepath.Abs(filepath.Join("..", x.file))
		if err != nil {
			t.Fatal(err)
		}
		code, err := os.ReadFile(source)
		if err != nil {
			t.Fatal(err)
		}
		want(t, x.file+": places to break it", strings.Count(string(code), x.was), 1)
		broken, overlay := filepath.Join(t.TempDir(), "broken.go"), filepath.Join(t.TempDir(), "overlay.json")
		list, err := json.Marshal(map[string]map[string]string{"Replace": {source: broken}})
		if err != nil {
			t.Fatal(err)
		}
		for name, data := range map[string]string{broken: strings.Replace(string(code), x.was, x.is, 1), overlay: string(list)} {
			if err := os.WriteFile(name, []byte(data), 0o666); err != nil {
				t.Fatal(err)
			}
		}
		c := exec.Command("go", "test", "-overlay", overlay, "-count=1", "-v", "-run", "^"+x.test+"$", ".")
		c.Env = append(os.Environ(), brokenVar+"="+x.test)
		if out, err := c.CombinedOutput(); err != nil || !strings.Contains(string(out), "--- PASS: "+x.test) {
			t.Errorf("%s: %v\n%s", x.test, err, out)
		}
	}
}

// onBroken skips a test that is not meant.
func onBroken(t *testing.T) {
	t.Helper()
	if os.Getenv(brokenVar) != t.Name() {
		t.Skip("all layers are whole")
	}
}

// P13.5: each call of the file system panics ahead of what it does, one at a time: all is removed, but what is behind that call if it is the last one for its file.
func TestBrokenCalls(t *testing.T) {
	onBroken(t)
	for i, w := range append(jobs(), checks()...) {
		isCheck := i >= len(jobs())
		m, by := w.model(t), w.run(t, api.FsConfig{}).fs.Stats().By
		for op := range api.Op(api.Ops) {
			for nth := 1; nth <= by[op]; nth++ {
				what := fmt.Sprintf("%q, %v panics", w.argv, fault(op, nth).Faults)
				r := w.run(t, fault(op, nth))
				want(t, what+": status", r.status, 2)
				line := "sort: error 120\n"
				if isCheck && op == api.OpWrite {
					// It is that of the diagnostics.
					line = ""
				}
				want(t, what+": diagnostics", r.errs, line)
				want(t, what+": put out", strings.HasPrefix(m.out, r.out), true)
				if left := w.leftBy(r, m); left > 0 && (op != api.OpRemove || left > 1) {
					t.Errorf("%s: left or changed: %v", what, held(r.fs))
				}
				if open := r.fs.Stats().Open; open > 0 && (op != api.OpClose || !isCheck || open > 1) {
					t.Errorf("%s: left open: %d", what, open)
				}
			}
		}
	}
}

// leftBy counts the files that are other than at the start and than the output, and those that are gone.
func (w world) leftBy(r result, m modelled) int {
	n, now := 0, held(r.fs)
	for name, data := range now {
		if was, is := w.files[name]; (!is || was != data) && (name != m.target || data != m.out) {
			n++
		}
	}
	for name := range w.files {
		if _, is := now[name]; !is {
			n++
		}
	}
	return n
}

// P13.5: lines that can't be compared, also by goroutines of their own.
func TestBrokenOrder(t *testing.T) {
	onBroken(t)
	for _, w := range append(jobs(), checks()...) {
		for _, name := range []string{"a", "b", "c", "s", "u", "-"} {
			w := w
			if name == "-" {
				w.stdin += "broken\nx\n"
			} else {
				w.files = w.files.with(name, w.files[name]+"broken\nx\n")
			}
			r := w.run(t, api.FsConfig{})
			what := fmt.Sprintf("%q, of %s", w.argv, name)
			if r.status != 2 {
				// This input is none, or it was seen sooner that the input is not in order.
				continue
			}
			want(t, what+": diagnostics", r.errs, "sort: error 120\n")
			want(t, what+": put out", strings.Contains(r.out, "broken"), false)
			w.unchanged(t, what, r.fs)
		}
	}
	for _, words := range []string{"a", "--parallel=4 a", "--lines=2 --parallel=3 -o a a", "--checkpoint ck -o out a", "-m a a", "-c a", "-C a", "-u a", "--lines=1 a"} {
		w := world{files: files{"a": "broken\nx\ny\n"}}
		w.words(words).ends(t, 2, "", "sort: error 120\n")
	}
}

// P13.5: words that can't be read.
func TestBrokenWords(t *testing.T) {
	onBroken(t)
	w := world{files: files{"a": "b\na\n"}}
	w.ends(t, 2, "", "sort: error 120\n")
	// A word that nobody sees.
	w.words("-q a").ends(t, 0, "a\nb\n", "")
	want(t, "without diagnostics", sortcmd.Run(w.system(t, api.FsConfig{}), nil, nil, nil, nil), 2)
}
