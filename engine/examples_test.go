package engine_test

import (
	"testing"

	"mill/api"
	"mill/engine"
)

// example runs a job of one input, the words of which are its lines; it must put this out and tell these counts.
func example(t *testing.T, words, lines, out string, stats api.JobStats) {
	t.Helper()
	w := world{files: files{"in": each(lines)}, words: words + " in"}
	r := w.ok(t)
	want(t, words+": put out", r.out, each(out))
	want(t, words+": stats", r.stats, stats)
	w.unchanged(t, words, r.fs)
}

func TestExample1(t *testing.T) {
	w := world{files: files{"a": "b\na\n", "b": "c"}, words: "a b"}
	r := w.ok(t)
	want(t, "put out", r.out, "a\nb\nc\n")
	want(t, "stats", r.stats, api.JobStats{Lines: 3, Resident: 3, Out: 3})
}

func TestExample2(t *testing.T) {
	example(t, "--lines=1", "c b a", "a b c", api.JobStats{Lines: 3, Resident: 3, Runs: 3, Passes: 1, Out: 3})
	example(t, "--lines=1 --batch-size=2", "c b a", "a b c", api.JobStats{Lines: 3, Resident: 2, Runs: 3, Passes: 2, Out: 3})
}

func TestExample3(t *testing.T) {
	for _, words := range []string{"--lines=2 --parallel=2", "--lines=2 --parallel=1"} {
		example(t, words, "d c b a", "a b c d", api.JobStats{Lines: 4, Resident: 2, Runs: 2, Passes: 1, Out: 4})
	}
}

func TestExample4(t *testing.T) {
	example(t, "-u --lines=1", "a a a", "a", api.JobStats{Lines: 3, Resident: 1, Runs: 1, Passes: 1, Out: 1})
}

func TestExample5(t *testing.T) {
	w := world{files: files{"in": each("a b b a")}, words: "-c in"}
	r := w.run(t, api.FsConfig{})
	want(t, "-c", r.e, api.ErrDisorder)
	want(t, "-c: stats", r.stats, api.JobStats{At: 4, Line: "a", File: "in", Lines: 4, Resident: 2})
	w.words = "-cu in"
	r = w.run(t, api.FsConfig{})
	want(t, "-cu", r.e, api.ErrDisorder)
	want(t, "-cu: stats", r.stats, api.JobStats{At: 3, Line: "b", File: "in", Lines: 3, Resident: 2})
}

func TestExample6(t *testing.T) {
	w := world{files: files{"a": each("a c"), "b": each("b a")}, words: "-m a b"}
	r := w.ok(t)
	want(t, "put out", r.out, each("a b a c"))
	want(t, "stats", r.stats, api.JobStats{Lines: 4, Resident: 2, Passes: 1, Out: 4})
}

func TestExample7(t *testing.T) {
	w := world{files: files{"a": each("c a"), "b": each("d b")}, words: "-o b a b"}
	r := w.ok(t)
	want(t, "files", held(r.fs), files{"a": each("c a"), "b": each("a b c d")}.String())
	want(t, "put out", r.out, "")
}

func TestExample8(t *testing.T) {
	w := world{files: files{"a": ""}, words: "-o x a"}
	r := w.ok(t)
	want(t, "files", held(r.fs), files{"a": "", "x": ""}.String())
	want(t, "stats", r.stats, api.JobStats{})
}

func TestExample9(t *testing.T) {
	o := options(t, "a")
	o.Checkpoint = "ck"
	s := world{files: files{"a": "x\n"}}.system(t, api.FsConfig{})
	stats, e := engine.Run(s, o, nil, s.Sink(-1))
	want(t, "a checkpoint without an output", e, api.ErrJob)
	want(t, "stats", stats, api.JobStats{})
}
