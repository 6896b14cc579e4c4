package tools

import (
	"errors"
	"testing"

	"mill/api"
	"mill/simfs"
)

// testJob gives a job on a system with a file a, and that system.
func testJob(t *testing.T, plan api.FsConfig) (*job, *simfs.FS) {
	t.Helper()
	fs, e := simfs.New(api.FsConfig{Capacity: 100, Files: 9, Handles: 9})
	if e != api.OK || fs.Put("a", []byte("1\n")) != api.OK || fs.Arm(plan) != api.OK {
		t.Fatal("no system")
	}
	return &job{fs: fs, name: "test", in: fs.Input(nil), out: writerTo(fs.Sink(-1)), errs: fs.Sink(-1)}, fs
}

// P14.17: a panic that is not the package's own, from below, does not go through either, and what is open is closed.
func TestForeignPanic(t *testing.T) {
	var list []int
	for what, broken := range map[string]func(){
		"a text": func() { panic("broken") }, "an error": func() { panic(errors.New("broken")) }, "an Errno": func() { panic(api.ErrStop) }, "nil": func() { panic(nil) }, "behind a list": func() { list[len(list)]++ },
	} {
		j, fs := testJob(t, api.FsConfig{})
		status, why := j.run(func(j *job, words []string) {
			j.source("a")
			j.open("b", api.ModeTrunc)
			j.put("x")
			broken()
		}, nil)
		if s := fs.Stats(); status != 2 || why != api.OK || s.Open != 0 || s.By[api.OpWrite] != 0 {
			t.Errorf("%s: %d, %d, %+v", what, status, why, s)
		}
	}
}
