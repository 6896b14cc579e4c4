package keyspec_test

import (
	"reflect"
	"slices"
	"strings"
	"sync"
	"testing"

	"mill/api"
	"mill/keyspec"
)

// blocksOf are the blocks of all that options hold.
func blocksOf(o api.Options) []block {
	l := []block{ofList(o.Keys), ofList(o.Files), ofText(o.Output), ofText(o.Temp), ofText(o.Checkpoint)}
	for _, name := range o.Files {
		l = append(l, ofText(name))
	}
	return l
}

func blocksOfArgv(argv []string) []block {
	l := []block{ofList(argv)}
	for _, word := range argv {
		l = append(l, ofText(word))
	}
	return l
}

// fresh gives an argv in memory of its own, word by word, with spare room behind it.
func fresh(words ...string) []string {
	l := make([]string, 0, len(words)+3)
	for _, w := range words {
		l = append(l, strings.Clone(w))
	}
	copy(l[len(l):cap(l)], []string{"spare", "room", "here"})
	return l
}

var memoryArgvs = [][]string{
	{"-k1,2", "-k3", "-oout", "--checkpoint=check", "-Ttemp", "in", "x", "--", "other"},
	{"--key=1", "--output=o", "--checkpoint", "c", "-T", "t", "--", "i", "x", "-"[:0] + "y", "z"},
	{"-o", "out", "--temporary-prefix=t", "a", "b"},
	{"-k1", "a"},
	{},
}

// P4.10: Parse changes nothing of an argv, spare room included, and keeps nothing of it.
func TestParseSharesNothing(t *testing.T) {
	for _, list := range memoryArgvs {
		argv := fresh(list...)
		first, _, e := keyspec.Parse(argv)
		want(t, brief(argv), e, api.OK)
		second, _, _ := keyspec.Parse(argv)
		if !slices.Equal(argv, list) || !slices.Equal(argv[len(argv):cap(argv)], []string{"spare", "room", "here"}) {
			t.Errorf("argv: %q", argv[:cap(argv)])
		}
		apart(t, brief(argv), slices.Concat(blocksOfArgv(argv), blocksOf(first), blocksOf(second)))
		// What is done to one answer isn't seen in the next one.
		kept := listed(second)
		_ = append(first.Keys, api.Key{Field: 99})
		_ = append(first.Files, "zzz")
		for i := range first.Keys {
			first.Keys[i].Field = 77
		}
		third, _, _ := keyspec.Parse(argv)
		if !same(second, kept) || !same(third, kept) {
			t.Errorf("%s: %+v, %+v, want %+v", brief(argv), second, third, kept)
		}
	}
}

// spared gives options whose lists have spare room with something in it.
func spared(o api.Options) api.Options {
	o.Keys = append(append(make([]api.Key, 0, len(o.Keys)+2), o.Keys...), api.Key{Field: 55}, api.Key{Field: 66})[:len(o.Keys)]
	o.Files = append(append(make([]string, 0, len(o.Files)+2), o.Files...), "spare", "room")[:len(o.Files)]
	return o
}

// P4.10: Check, Print and Effective change nothing of options, and what they answer shares nothing with them, nor with another answer.
func TestPrintSharesNothing(t *testing.T) {
	for _, list := range memoryArgvs {
		o, _, e := keyspec.Parse(list)
		want(t, brief(list), e, api.OK)
		o = spared(o)
		keys, names := slices.Clone(o.Keys[:cap(o.Keys)]), slices.Clone(o.Files[:cap(o.Files)])
		before := o
		want(t, "Check", keyspec.Check(o), api.OK)
		a, _ := keyspec.Print(o)
		b, _ := keyspec.Print(o)
		c, d := keyspec.Effective(o), keyspec.Effective(o)
		if !slices.Equal(keys, o.Keys[:cap(o.Keys)]) || !slices.Equal(names, o.Files[:cap(o.Files)]) || !reflect.DeepEqual(o, before) {
			t.Errorf("%s: %+v", brief(list), o)
		}
		apart(t, brief(list), slices.Concat(blocksOf(o), blocksOfArgv(a), blocksOfArgv(b), []block{ofList(c), ofList(d)}))
	}
	for _, k := range []api.Key{{Field: 1, Char: 1}, {Field: 12, Char: 1}, {Field: 1, Char: 1, EndField: 3, EndB: true}} {
		a, _ := keyspec.PrintKey(k)
		b, _ := keyspec.PrintKey(k)
		apart(t, a, []block{ofText(a), ofText(b)})
	}
	for _, word := range []string{"re", "reverse", "sort"} {
		word = strings.Clone(word)
		a, _ := keyspec.Long(word)
		b, _ := keyspec.Long(word)
		apart(t, a, []block{ofText(word), ofText(a), ofText(b)})
	}
}

// P4.6, P4.10: the keys that Effective gives are its own: what they inherit isn't written into the options.
func TestEffectiveLeavesKeys(t *testing.T) {
	o := spared(api.Options{Tab: -1, Mods: api.ModB | api.ModN, Keys: []api.Key{{Field: 1, Char: 1}, {Field: 2, Char: 1, Mods: api.ModR}}})
	keyspec.Effective(o)
	if !slices.Equal(o.Keys, []api.Key{{Field: 1, Char: 1}, {Field: 2, Char: 1, Mods: api.ModR}}) {
		t.Errorf("keys: %+v", o.Keys)
	}
}

// R5: answers are the same whatever was asked before, and whoever asks beside.
func TestNothingIsKept(t *testing.T) {
	argvs := append([][]string{{"-q"}, {"--s"}, {"-nM"}, {"-k0"}, {"-nrk2", "a", "-t,", "--", "-b"}, {"--ch"}, {"-c", "a", "b"}}, memoryArgvs...)
	type answer struct {
		o     api.Options
		place int
		e     api.Errno
		argv  []string
	}
	ask := func(i int) (a answer) {
		a.o, a.place, a.e = keyspec.Parse(argvs[i])
		a.argv, _ = keyspec.Print(a.o)
		return a
	}
	var wanted []answer
	for i := range argvs {
		wanted = append(wanted, ask(i))
	}
	var wait sync.WaitGroup
	for from := range 8 {
		wait.Go(func() {
			for n := range 200 * len(argvs) {
				i := (n*(1+from%2*10) + from) % len(argvs)
				if a := ask(i); !reflect.DeepEqual(a, wanted[i]) {
					t.Errorf("%s: %+v, want %+v", brief(argvs[i]), a, wanted[i])
					return
				}
			}
		})
	}
	wait.Wait()
}

// P4.10: no call panics, at options of any numbers and bytes.
func TestNoPanics(t *testing.T) {
	odd := []int{-1 << 63, -1, 0, 1, 255, 256, 1<<31 - 1, 1 << 31, 1<<63 - 1}
	for _, n := range odd {
		k := api.Key{Field: n, Char: n, EndField: n, EndChar: n, Mods: api.Mods(n), EndB: n < 0}
		o := api.Options{Keys: []api.Key{k, k}, Mods: api.Mods(n), Tab: n, Check: api.CheckMode(n), Output: "\xff\x00", Lines: n, Bytes: n, Fan: n, Parallel: n, Temp: "\x00", Checkpoint: "\xff", Files: []string{"\x00", ""}}
		unsaid(t, o)
		want(t, "Effective", len(keyspec.Effective(o)), 2)
	}
	for i := range 1 << 16 {
		s := string([]byte{byte(i >> 8), byte(i)})
		keyspec.ParseKey(s)
		keyspec.Size(s)
		keyspec.Long(s)
		keyspec.Parse([]string{s, "-" + s, "--" + s})
		keyspec.Parse([]string{"-" + s})
		keyspec.Parse([]string{"--" + s})
	}
}
