package engine_test

import (
	"fmt"
	"regexp"
	"strings"
	"testing"

	"mill/api"
	"mill/simfs"
)

// resumable are worlds of jobs with a checkpoint.
func resumable() []world {
	f := files{"a": each("d b d a c"), "b": each("a e"), "c": "", "long": strings.Repeat("x", 700) + "\n" + strings.Repeat("w", 600) + "\n"}
	var l []world
	for _, words := range []string{
		"-o out a b", "-o a --lines=2 --batch-size=2 a b", "-o out c", "-u -o b --lines=1 --batch-size=2 -T t b a a", "-o out --lines=2 --parallel=3 --pack b c a", "-o long --lines=1 --batch-size=2 long long c",
	} {
		l = append(l, world{files: f, words: "--checkpoint ck " + words})
	}
	return l
}

// owned are the names that a job owns.
var owned = regexp.MustCompile(`^((mill|t)\.[0-9]{5}|ck|ck\.new)$`)

// survives tells that behind a loss of power all files of the world are as they were, but that the output may stand, whole; and that every other one is the job's own.
func (w world) survives(t *testing.T, what string, s *simfs.FS, m modelled) {
	t.Helper()
	output := w.outputName(t)
	for name, data := range w.files {
		got, is := s.Look(name)
		if !is || string(got) != data && (name != output || string(got) != m.out) {
			t.Fatalf("%s: %s is %q", what, name, got)
		}
	}
	for _, name := range s.Names() {
		if _, is := w.files[name]; is || owned.MatchString(name) {
			continue
		}
		if got, _ := s.Look(name); name != output || string(got) != m.out {
			t.Fatalf("%s: %s is there: %q", what, name, got)
		}
	}
}

// life lets a job live until the power is lost at a call; it tells whether it was.
func (w world) life(t *testing.T, what string, s *simfs.FS, cut, keep int, m modelled) bool {
	t.Helper()
	want(t, "Arm", s.Arm(api.FsConfig{Power: cut}), api.OK)
	r := w.on(t, s)
	dark := s.Stats().Dark
	if r.e != api.OK && (r.e != api.ErrPower || !dark) {
		t.Fatalf("%s: %d", what, r.e)
	}
	if dark {
		want(t, "Reboot", s.Reboot(keep), api.OK)
	}
	w.survives(t, what, s, m)
	return dark
}

// W5: the power is lost at each call of any job, and leaves any bytes.
func TestLossOfPower(t *testing.T) {
	for _, w := range jobs() {
		m := model(t, w)
		for cut := 1; ; cut++ {
			dark := false
			for _, keep := range []int{0, 1, 20, 30, 1000} {
				s := w.system(t, api.FsConfig{})
				dark = w.life(t, fmt.Sprintf("%s, no power at call %d, %d bytes left", w.words, cut, keep), s, cut, keep, m)
			}
			if !dark {
				break
			}
		}
	}
}

// W6, P12.15: one loss of power, at each call, with any number of bytes left; then the job is done.
func TestOneLoss(t *testing.T) {
	for _, w := range resumable() {
		m := model(t, w)
		for cut := 1; ; cut++ {
			dark := false
			// Any number of bytes: another one at each call, and of each entry's length.
			for _, keep := range []int{0, cut % 70, 15, 24, 45, 46, 70, 600, 100000} {
				what := fmt.Sprintf("%s, no power at call %d, %d bytes left", w.words, cut, keep)
				s := w.system(t, api.FsConfig{})
				if dark = w.life(t, what, s, cut, keep, m); !dark {
					break
				}
				w.lastLife(t, what, s, m)
			}
			if !dark {
				break
			}
		}
	}
}

// lastLife tells that a job that keeps its power is done.
func (w world) lastLife(t *testing.T, what string, s *simfs.FS, m modelled) {
	t.Helper()
	if _, there := s.Look("ck"); !there && string(must(lookOr(s, w.outputName(t)))) == m.out {
		// All was done ahead of the loss.
		return
	}
	_, resumed := s.Look("ck")
	r := w.on(t, s)
	want(t, what, r.e, api.OK)
	want(t, what+": Resumed", r.stats.Resumed, resumed)
	if r.stats.Runs != 0 {
		want(t, what+": runs", r.stats.Runs, m.stats.Runs)
		want(t, what+": steps", r.stats.Passes, m.stats.Passes)
		want(t, what+": lines", r.stats.Lines, m.stats.Lines)
		want(t, what+": lines put out", r.stats.Out, m.stats.Out)
	}
	w.done(t, what, s, r.out, m)
}

// lookOr gives the bytes of a file, none if it is not there.
func lookOr(s *simfs.FS, name string) ([]byte, api.Errno) {
	data, _ := s.Look(name)
	return data, api.OK
}

// W6, P12.15: two losses, at any two calls: behind each first one every eleventh, another one each time.
func TestTwoLosses(t *testing.T) {
	for _, w := range resumable() {
		m := model(t, w)
		calls := len(w.trace(t))
		for one := 1; one <= calls; one++ {
			for two := 1 + one*3%11; ; two += 11 {
				what := fmt.Sprintf("%s, no power at calls %d and %d", w.words, one, two)
				s := w.system(t, api.FsConfig{})
				w.life(t, what, s, one, (one*7+two)%45, m)
				dark := w.life(t, what, s, two, (one+two*11)%45, m)
				if !dark {
					break
				}
				w.lastLife(t, what, s, m)
			}
		}
	}
}

// W6, P12.15: many losses: each life gets so far as one more entry, or not.
func TestManyLosses(t *testing.T) {
	for _, w := range resumable() {
		m := model(t, w)
		for step := 1; step < 60; step++ {
			w.room = enough(t, w, 41)
			s := w.system(t, api.FsConfig{})
			for life := 0; ; life++ {
				what := fmt.Sprintf("%s, life %d, step %d", w.words, life, step)
				cut := 1 + (life*step+step/2)%(20+life)
				if !w.life(t, what, s, cut, (life*13+step)%60, m) {
					break
				}
				if life == 40 {
					w.lastLife(t, what, s, m)
					break
				}
			}
			w.done(t, w.words, s, "", m)
		}
	}
}

// P12.13: a life does not do again what stands in the journal: each is cut at one and the same call, and still the job is done, as each gets a run or a step further.
func TestLivesGetFurther(t *testing.T) {
	w := world{files: files{"a": each("i h g f e d c b a")}, words: "--checkpoint ck -o out --lines=1 --batch-size=2 a"}
	m := model(t, w)
	s := w.system(t, api.FsConfig{})
	lives := 0
	for w.life(t, w.words, s, 50, 1000, m) {
		if lives++; lives > 30 {
			t.Fatal("no life gets any further")
		}
	}
	want(t, "more than one life", lives > 3, true)
	w.done(t, w.words, s, "", m)
}

// DOC.md, Restart: the power is lost on the way out of a job that a refused call has ended. The next life may find that runs are missing, and ends; but what is left behind is never lost sight of.
func TestLossOnTheWayOut(t *testing.T) {
	for _, w := range resumable() {
		trace, m := w.trace(t), model(t, w)
		for n := 7; n < w.stands(t, trace); n += 3 {
			for more := 1; more < 8; more++ {
				op, k := nth(trace, n)
				plan := fault(op, k)
				plan.Power = n + more
				s := w.system(t, plan)
				what := fmt.Sprintf("%s, %v", w.words, plan)
				want(t, what, w.on(t, s).e, api.ErrIO)
				want(t, "Reboot", s.Reboot(n), api.OK)
				w.survives(t, what, s, m)
				if r := w.on(t, s); r.e != api.OK {
					want(t, what+": the next life", r.e, api.ErrMissing)
					w.unchanged(t, what+": the next life", s)
					want(t, what+": the life behind it", w.on(t, s).e, api.OK)
				}
				w.done(t, what, s, "", m)
			}
		}
	}
}
