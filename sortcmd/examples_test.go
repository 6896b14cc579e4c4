package sortcmd_test

import (
	"testing"

	"mill/api"
)

// examples is the world of the chapter's examples.
var examples = world{files: files{"a": "b\na\nb\n"}}

func TestExample1(t *testing.T) {
	examples.words("a").ends(t, 0, "a\nb\nb\n", "")
}

func TestExample2(t *testing.T) {
	examples.words("-u a").ends(t, 0, "a\nb\n", "")
	examples.words("-c a").ends(t, 1, "", "sort: a:2: disorder: a\n")
	examples.words("-C a").ends(t, 1, "", "")
	examples.words("-m a a").ends(t, 0, "b\na\nb\nb\na\nb\n", "")
}

func TestExample3(t *testing.T) {
	r := examples.words("-o a a").run(t, api.FsConfig{})
	want(t, "status", r.status, 0)
	want(t, "files", held(r.fs).String(), files{"a": "a\nb\nb\n"}.String())
	want(t, "put out", r.out, "")
	want(t, "diagnostics", r.errs, "")
}

func TestExample4(t *testing.T) {
	examples.words("x").ends(t, 2, "", "sort: no such file: x\n")
	examples.words("-q").ends(t, 2, "", "sort: unknown option: -q\n")
	examples.words("-k 0 a").ends(t, 2, "", "sort: bad key: -k\n")
}

func TestExample5(t *testing.T) {
	w := examples
	w.stdin = "d\nc"
	w.ends(t, 0, "c\nd\n", "")
}

func TestExample6(t *testing.T) {
	w := examples
	w.argv = []string{"x\n"}
	w.ends(t, 2, "", "sort: no such file: x\\x0a\n")
}
