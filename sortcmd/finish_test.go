package sortcmd

import (
	"errors"
	"runtime"
	"testing"

	"mill/api"
	"mill/simfs"
)

// unready is an error that can't tell itself.
type unready struct{}

func (unready) Error() string { panic("not yet") }

// ways are the ways in which work may panic.
func ways() map[string]func() error {
	var none *api.Options
	var list []int
	return map[string]func() error{
		"a text":           func() error { panic("broken") },
		"an error":         func() error { panic(api.ErrStop) },
		"a wrapped error":  func() error { panic(fault{why: api.ErrDisorder}) },
		"nil":              func() error { panic(nil) },
		"behind nil":       func() error { return fault{about: none.Output} },
		"behind a list":    func() error { return fault{why: api.Errno(list[len(list)])} },
		"ahead of its end": func() error { defer func() { panic("late") }(); return fault{why: api.ErrStop} },
		"an error of its own": func() error {
			return unready{}
		},
	}
}

// P13.5: a panic below is an ErrJob, whatever it panics with; the diagnostics are one Write.
func TestPanic(t *testing.T) {
	for what, work := range ways() {
		s, e := simfs.New(api.FsConfig{Files: 1, Handles: 1})
		if e != api.OK {
			t.Fatal("New:", e)
		}
		errs := s.Sink(-1)
		line, writes := "sort: error 120\n", 1
		if what == "an error of its own" {
			// Of a panic on the way out there is no telling.
			line, writes = "", 0
		}
		if status := finish(errs, work); status != 2 {
			t.Errorf("%s: status %d", what, status)
		}
		if told := string(errs.Taken()); told != line || s.Stats().By[api.OpWrite] != writes {
			t.Errorf("%s: diagnostics %q, %d Writes", what, told, s.Stats().By[api.OpWrite])
		}
		for _, errs := range []*simfs.File{nil, {}, s.Sink(0), s.Input(nil)} {
			if status := finish(errs, work); status != 2 {
				t.Errorf("%s: status %d without diagnostics", what, status)
			}
		}
	}
}

// P13.5: whoever calls the command does not see the panic.
func TestPanicIsOver(t *testing.T) {
	defer func() {
		if r := recover(); r != nil {
			t.Errorf("it goes on: %v", r)
		}
	}()
	for _, work := range ways() {
		finish(nil, work)
	}
	runtime.Gosched()
}

// What an error is does not hang on what it is wrapped in.
func TestStatusOf(t *testing.T) {
	for _, x := range []struct {
		err    error
		status int
	}{
		{nil, 0}, {api.ErrStop, 130}, {api.ErrDisorder, 1}, {api.ErrIO, 2}, {errors.New("another"), 2},
		{fault{api.ErrStop, "a"}, 130}, {fault{api.ErrDisorder, "a"}, 1}, {fault{api.ErrMissing, ""}, 2}, {fault{}, 2}, {disorder{}, 1}, {disorder{silent: true}, 1},
		{errors.Join(errors.New("one"), fault{api.ErrStop, "a"}), 130}, {errors.Join(disorder{}), 1},
	} {
		if got := statusOf(x.err); got != x.status {
			t.Errorf("%v: %d, want %d", x.err, got, x.status)
		}
	}
}
