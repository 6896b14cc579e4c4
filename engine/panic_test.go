package engine

import (
	"slices"
	"testing"

	"mill/api"
	"mill/simfs"
)

// doneOf tells which of some acts are done, and with what they panic in the end. Each is a letter: p panics, d finds the power off, all others are done.
func doneOf(letters string) (done string, thrown any) {
	defer func() { thrown = recover() }()
	var acts []func() api.Errno
	for _, c := range letters {
		acts = append(acts, func() api.Errno {
			done += string(c)
			switch c {
			case 'p':
				panic(len(done))
			case 'd':
				return api.ErrPower
			case 'e':
				return api.ErrIO
			}
			return api.OK
		})
	}
	doWithPower(acts)
	return done, nil
}

// P13.5, P12.10: on the way out each thing is tried, whatever the others answer, and even if they panic; in the dark none.
func TestDoWithPower(t *testing.T) {
	for letters, wanted := range map[string]struct {
		done   string
		thrown any
	}{
		"": {"", nil}, "a": {"a", nil}, "abc": {"abc", nil}, "eae": {"eae", nil},
		"d": {"d", nil}, "da": {"d", nil}, "abdc": {"abd", nil}, "edd": {"ed", nil},
		"p": {"p", 1}, "pa": {"pa", 1}, "abpc": {"abpc", 3}, "ppap": {"ppap", 4}, "apbd": {"apbd", 2}, "apbdc": {"apbd", 2}, "dp": {"d", nil}, "papd": {"papd", 3},
	} {
		done, thrown := doneOf(letters)
		if done != wanted.done || thrown != wanted.thrown {
			t.Errorf("%s: %s, %v; want %s, %v", letters, done, thrown, wanted.done, wanted.thrown)
		}
	}
}

// P13.5: a job whose work panics leaves nothing behind, and panics on.
func TestEndBehindPanic(t *testing.T) {
	for _, checkpoint := range []string{"", "ck"} {
		s, e := simfs.New(api.FsConfig{Capacity: 1000, Files: 9, Handles: 9})
		if e != api.OK || s.Put("a", []byte("b\na\n")) != api.OK {
			t.Fatal("no system")
		}
		j, e := newJob(s, api.Options{Tab: -1, Files: []string{"a"}, HasOutput: true, Output: "out", Checkpoint: checkpoint}, nil)
		if e != api.OK {
			t.Fatal("no job:", e)
		}
		func() {
			defer func() {
				if r := recover(); r != "broken" {
					t.Errorf("%v is thrown", r)
				}
			}()
			j.do(func() api.Errno {
				j.begin()
				j.makeTemp()
				j.openInput(0)
				j.makeTemp()
				if n := len(s.Names()); s.Stats().Open < 3 || n < 3 {
					t.Errorf("%d open, %d files", s.Stats().Open, n)
				}
				panic("broken")
			})
		}()
		if l := s.Names(); s.Stats().Open != 0 || !slices.Equal(l, []string{"a"}) {
			t.Errorf("%d left open, files %q", s.Stats().Open, l)
		}
	}
}
