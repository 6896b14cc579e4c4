package engine_test

import (
	"reflect"
	"runtime"
	"slices"
	"strings"
	"testing"
	"unsafe"

	"mill/api"
	"mill/engine"
	"mill/simfs"
)

// P12.18: what is handed in is not changed, spare room included.
func TestNotChanged(t *testing.T) {
	for _, words := range []string{"-k2 -k1,1r a b", "-o out --lines=1 -k1 b a", "-m -k2 a b", "-c -k2 a", "-k3 --checkpoint ck -o out --lines=1 a b", "-k1"} {
		w := world{files: files{"a": each("c b a"), "b": each("x")}, stdin: each("d e")}
		o := options(t, words)
		o.Keys = append(make([]api.Key, 0, 7), o.Keys...)
		o.Files = append(make([]string, 0, 7), o.Files...)
		spareKeys, spareFiles := o.Keys[len(o.Keys):7], o.Files[len(o.Files):7]
		for i := range spareKeys {
			spareKeys[i].Field = 77
		}
		for i := range spareFiles {
			spareFiles[i] = "spare"
		}
		before := o
		before.Keys, before.Files = slices.Clone(o.Keys), slices.Clone(o.Files)
		s := w.system(t, api.FsConfig{})
		engine.Run(s, o, s.Input([]byte(w.stdin)), s.Sink(-1))
		engine.Lines(s, o, s.Input([]byte(w.stdin)))
		engine.Fingerprint(o)
		want(t, words+": unchanged", reflect.DeepEqual(o, before), true)
		for _, k := range spareKeys {
			want(t, words+": spare room", k, api.Key{Field: 77})
		}
		for _, name := range spareFiles {
			want(t, words+": spare room", name, "spare")
		}
	}
}

// sameText tells whether two texts share memory.
func sameText(a, b string) bool {
	return len(a) > 1 && len(b) > 1 && unsafe.StringData(a) == unsafe.StringData(b)
}

// R4: what is answered shares no memory with what was handed in.
func TestAnswersAreNew(t *testing.T) {
	name := strings.Clone("a file")
	for _, data := range []string{"bb\naa\n", strings.Repeat("x", 70000)} {
		s := world{files: files{name: data}}.system(t, api.FsConfig{})
		stats, _ := engine.Run(s, api.Options{Tab: -1, Check: api.CheckLoud, Files: []string{name}}, nil, nil)
		want(t, "File", stats.File, "a file")
		want(t, "File is new", sameText(stats.File, name), false)
	}
	s := world{files: files{name: "aa\nbb"}}.system(t, api.FsConfig{})
	o := api.Options{Tab: -1, Files: []string{name}}
	one, _ := engine.Lines(s, o, nil)
	two, _ := engine.Lines(s, o, nil)
	for i := range one {
		want(t, "lines are new", sameText(one[i], two[i]), false)
	}
	one[0] = "changed"
	want(t, "the other answer", two[0], "aa")
}

// R1, P12.18: no call panics, whatever is handed in; each ends.
func TestNoPanic(t *testing.T) {
	var noFile *simfs.File
	systems := []*simfs.FS{nil, {}, world{files: files{"a": "b\na\n"}}.system(t, api.FsConfig{}), world{files: files{"a": "b\na\n"}}.system(t, api.FsConfig{Power: 1})}
	for _, s := range systems {
		streams := []*simfs.File{nil, noFile, {}, s.Input([]byte("x\ny")), s.Sink(0), s.Sink(-1)}
		for _, o := range []api.Options{
			{}, {Tab: -1}, {Tab: -1, Files: []string{"a", "-", ""}}, {Tab: 300}, {Files: []string{"a"}, Lines: 1, HasOutput: true}, {Check: 7, Files: []string{"a"}}, {Keys: make([]api.Key, 40)},
			{Tab: -1, Files: []string{"a"}, Checkpoint: "a.new", HasOutput: true, Output: "b"}, {Merge: true, Files: []string{"a", "a", "-", "-"}}, {Tab: -1, Lines: -5, Bytes: 1 << 60, Fan: -1, Parallel: 99},
		} {
			for _, in := range streams {
				for _, out := range streams {
					engine.Run(s, o, in, out)
				}
				engine.Lines(s, o, in)
			}
			engine.Fingerprint(o)
		}
	}
}

// P12.18: all goroutines have ended when a call answers.
func TestNoGoroutineLeft(t *testing.T) {
	before := runtime.NumGoroutine()
	w := world{files: files{"a": strings.Repeat("one\ntwo\n", 3000)}}
	for _, words := range []string{"--parallel=16 a", "--parallel=3 --lines=100 a", "--parallel=7 --lines=1000 --checkpoint ck -o out a"} {
		w.words = words
		for _, plan := range []api.FsConfig{{}, {Interrupt: 30}, {Power: 30}, fault(api.OpWrite, 7)} {
			w.run(t, plan)
			allEnded(t, words, before)
		}
	}
}

// R5: jobs on systems of their own may run at one time, and one of them does not know of the others.
func TestSideBySide(t *testing.T) {
	w := world{files: files{"a": each("d b d a c"), "b": each("a e")}, words: "--lines=2 --parallel=2 --batch-size=2 --checkpoint ck -o out a b"}
	m := model(t, w)
	results := make([]result, 8)
	systems := make([]*simfs.FS, len(results))
	for i := range results {
		systems[i] = w.system(t, api.FsConfig{})
	}
	done := make(chan int)
	for i := range results {
		go func() {
			results[i] = w.on(t, systems[i])
			done <- i
		}()
	}
	for range results {
		<-done
	}
	for _, r := range results {
		w.comes(t, "side by side", r, m)
	}
}
