package keyspec_test

import (
	"math/rand"
	"slices"
	"strconv"
	"strings"
	"testing"

	"mill/api"
	"mill/keyspec"
)

// printed tells what Print gives of options, that Check takes them, and that Parse takes them back.
func printed(t *testing.T, o api.Options, wanted ...string) {
	t.Helper()
	want(t, "Check", keyspec.Check(o), api.OK)
	argv, e := keyspec.Print(o)
	if !slices.Equal(argv, wanted) || e != api.OK {
		t.Errorf("Print: %s, %d, want %s", brief(argv), e, brief(wanted))
	}
	takes(t, o, wanted...)
}

// unsaid tells that Check and Print refuse options.
func unsaid(t *testing.T, o api.Options) {
	t.Helper()
	if e := keyspec.Check(o); e != api.ErrConflict {
		t.Errorf("Check(%.300q): %d", strings.Join(plainWords(o), " "), e)
	}
	if argv, e := keyspec.Print(o); argv != nil || e != api.ErrConflict {
		t.Errorf("Print(%.300q): %s, %d", strings.Join(plainWords(o), " "), brief(argv), e)
	}
}

// P4.8: the words one by one, and their order.
func TestPrint(t *testing.T) {
	printed(t, none())
	printed(t, api.Options{}, `-t\0`)
	printed(t, api.Options{Tab: -1, Keys: []api.Key{}, Files: []string{}})
	printed(t, none(func(o *api.Options) { o.Mods = api.ModR | api.ModI | api.ModF | api.ModD | api.ModB }), "-bdfir")
	printed(t, none(func(o *api.Options) { o.Mods, o.Keys = api.ModR<<1-1, []api.Key{{Field: 1, Char: 1, Mods: api.ModN}} }), "-bdfghiMnrV", "-k1n")
	printed(t, none(func(o *api.Options) { o.Check = api.CheckLoud }), "-c")
	printed(t, none(func(o *api.Options) { o.Check = api.CheckSilent }), "-C")
	printed(t, none(func(o *api.Options) { o.Check, o.Stable, o.Unique, o.Zero = api.CheckLoud, true, true, true }), "-csuz")
	printed(t, none(func(o *api.Options) { o.Merge, o.Stable, o.Unique, o.Zero = true, true, true, true }), "-msuz")
	printed(t, none(func(o *api.Options) { o.Mods, o.Merge = api.ModN, true }), "-n", "-m")
	printed(t, none(func(o *api.Options) { o.Stable = true }), "-s")
	printed(t, none(func(o *api.Options) { o.Unique = true }), "-u")
	printed(t, none(func(o *api.Options) { o.Zero = true }), "-z")
	printed(t, none(func(o *api.Options) { o.HasOutput = true }), "-o", "")
	printed(t, none(func(o *api.Options) { o.HasOutput, o.Output = true, "--" }), "-o", "--")
	printed(t, none(func(o *api.Options) { o.Lines = 1 }), "--lines=1")
	printed(t, none(func(o *api.Options) { o.Bytes = 1 }), "--buffer-size=1b")
	printed(t, none(func(o *api.Options) { o.Bytes = 1 << 20 }), "--buffer-size=1048576b")
	printed(t, none(func(o *api.Options) { o.Fan = 2 }), "--batch-size=2")
	printed(t, none(func(o *api.Options) { o.Parallel = 16 }), "--parallel=16")
	printed(t, none(func(o *api.Options) { o.Temp = "=" }), "--temporary-prefix==")
	printed(t, none(func(o *api.Options) { o.Pack = true }), "--pack")
	printed(t, files("-"), "--", "-")
	printed(t, files("", "--", "-r", "a"), "--", "", "--", "-r", "a")
	printed(t, everything(),
		"-fr", "-msuz", "-t;", "-k2.3n,4b", "-k1", "-o", "out", "--lines=1048576", "--buffer-size=67108864b", "--batch-size=64", "--parallel=16", "--temporary-prefix=tmp", "--pack", "--", "a", "b")
	printed(t, none(func(o *api.Options) {
		o.Checkpoint, o.HasOutput, o.Output, o.Pack, o.Files = "-c", true, "a", true, []string{"a"}
	}), "-o", "a", "--pack", "--checkpoint", "-c", "--", "a")
	for i := range 255 {
		printed(t, api.Options{Tab: i + 1}, "-t"+string([]byte{byte(i + 1)}))
	}
}

// everything is options with all that goes together.
func everything() api.Options {
	return api.Options{
		Keys: []api.Key{{Field: 2, Char: 3, EndField: 4, Mods: api.ModN, EndB: true}, {Field: 1, Char: 1}},
		Mods: api.ModF | api.ModR, Tab: ';', Stable: true, Unique: true, Zero: true, Merge: true, Output: "out", HasOutput: true,
		Lines: api.MaxLines, Bytes: api.MaxBytes, Fan: api.MaxFan, Parallel: api.MaxParallel, Temp: "tmp", Pack: true, Files: []string{"a", "b"},
	}
}

// P4.7: each bound, at it and one past it.
func TestCheckBounds(t *testing.T) {
	for _, change := range []func(o *api.Options){
		func(o *api.Options) { o.Tab = -1 }, func(o *api.Options) { o.Tab = 0 }, func(o *api.Options) { o.Tab = 255 },
		func(o *api.Options) { o.Lines = 1 }, func(o *api.Options) { o.Lines = api.MaxLines },
		func(o *api.Options) { o.Bytes = 1 }, func(o *api.Options) { o.Bytes = api.MaxBytes },
		func(o *api.Options) { o.Fan = 2 }, func(o *api.Options) { o.Fan = 64 },
		func(o *api.Options) { o.Parallel = 1 }, func(o *api.Options) { o.Parallel = 16 },
		func(o *api.Options) { o.Temp = "\xff" }, func(o *api.Options) { o.Temp = xs(32) },
		func(o *api.Options) { o.HasOutput, o.Output = true, "" }, func(o *api.Options) { o.HasOutput, o.Output = true, xs(4096) },
		func(o *api.Options) { o.Files = []string{xs(4096), xs(4096)} }, func(o *api.Options) { o.Files = words(128, "a") },
		func(o *api.Options) { o.Check, o.Files = api.CheckSilent, []string{"a"} },
		func(o *api.Options) { o.Keys = make16(api.Key{Field: 1, Char: 1}, 16) },
		func(o *api.Options) {
			o.HasOutput, o.Files, o.Checkpoint = true, []string{"a"}, xs(4096)
		},
	} {
		o := none(change)
		argv, e := keyspec.Print(o)
		want(t, brief(argv), e, api.OK)
		want(t, brief(argv), keyspec.Check(o), api.OK)
		takes(t, o, argv...)
	}
	for _, change := range []func(o *api.Options){
		func(o *api.Options) { o.Tab = -2 }, func(o *api.Options) { o.Tab = 256 }, func(o *api.Options) { o.Tab = -1 << 63 },
		func(o *api.Options) { o.Lines = -1 }, func(o *api.Options) { o.Lines = api.MaxLines + 1 },
		func(o *api.Options) { o.Bytes = -1 }, func(o *api.Options) { o.Bytes = api.MaxBytes + 1 },
		func(o *api.Options) { o.Fan = -1 }, func(o *api.Options) { o.Fan = 1 }, func(o *api.Options) { o.Fan = 65 },
		func(o *api.Options) { o.Parallel = -1 }, func(o *api.Options) { o.Parallel = 17 },
		func(o *api.Options) { o.Temp = "\x00" }, func(o *api.Options) { o.Temp = "a\x00" }, func(o *api.Options) { o.Temp = xs(33) },
		func(o *api.Options) { o.Output = "x" }, func(o *api.Options) { o.HasOutput, o.Output = true, xs(4097) },
		func(o *api.Options) { o.Files = []string{"a", xs(4097)} }, func(o *api.Options) { o.Files = words(129, "a") }, func(o *api.Options) { o.Files = words(1000, "a") },
		func(o *api.Options) { o.Check = 3 }, func(o *api.Options) { o.Check = 255 },
		func(o *api.Options) { o.Check, o.Merge = api.CheckLoud, true },
		func(o *api.Options) { o.Check, o.HasOutput = api.CheckSilent, true },
		func(o *api.Options) { o.Check, o.Files = api.CheckLoud, []string{"a", "b"} },
		func(o *api.Options) { o.Check, o.Files = api.CheckSilent, []string{"a", "b"} },
		func(o *api.Options) { o.Keys = make16(api.Key{Field: 1, Char: 1}, 17) },
		func(o *api.Options) { o.Keys = make16(api.Key{Field: 1}, 16) },
		func(o *api.Options) { o.Mods = api.ModR << 1 }, func(o *api.Options) { o.Mods = 1<<15 | api.ModN }, func(o *api.Options) { o.Mods = 1<<16 - 1 },
		func(o *api.Options) { o.Mods, o.Keys = 1<<11, []api.Key{{Field: 1, Char: 1, Mods: api.ModN}} },
		func(o *api.Options) { o.Mods = api.ModN | api.ModM }, func(o *api.Options) { o.Mods = api.ModN | api.ModI },
		func(o *api.Options) { o.Mods, o.Keys = api.ModV|api.ModD, []api.Key{{Field: 1, Char: 1}} },
	} {
		unsaid(t, none(change))
	}
}

func make16(k api.Key, n int) []api.Key {
	l := make([]api.Key, n)
	for i := range l {
		l[i] = k
	}
	return l
}

// P4.7: what a checkpoint does not go together with.
func TestCheckCheckpoint(t *testing.T) {
	base := api.Options{Tab: -1, Checkpoint: "c", HasOutput: true, Output: "o", Files: []string{"a", "b"}}
	printed(t, base, "-o", "o", "--checkpoint", "c", "--", "a", "b")
	for _, change := range []func(o *api.Options){
		func(o *api.Options) { o.Merge = true },
		func(o *api.Options) { o.Check = api.CheckLoud },
		func(o *api.Options) {
			o.Check, o.Files, o.HasOutput, o.Output = api.CheckLoud, []string{"a"}, false, ""
		},
		func(o *api.Options) { o.HasOutput, o.Output = false, "" },
		func(o *api.Options) { o.Files = nil },
		func(o *api.Options) { o.Files = []string{} },
		func(o *api.Options) { o.Files = []string{"a", "-"} },
		func(o *api.Options) { o.Files = []string{"c", "a"} },
		func(o *api.Options) { o.Files = []string{"a", "c.new"} },
		func(o *api.Options) { o.Output = "c" },
		func(o *api.Options) { o.Output = "c.new" },
		func(o *api.Options) { o.Checkpoint = xs(4097) },
	} {
		o := base
		change(&o)
		unsaid(t, o)
	}
}

// P4.7: as many words as an argv can need are no more than it may have.
func TestCheckLargest(t *testing.T) {
	o := everything()
	o.Merge, o.Keys, o.Checkpoint = false, make16(api.Key{Field: 1, Char: 1, Mods: api.ModR}, 16), "c"
	o.Output, o.Files, o.Mods = xs(4096), words(128, xs(4096)), api.ModR<<1-1
	argv, e := keyspec.Print(o)
	want(t, "Print", e, api.OK)
	want(t, "words", len(argv), 1+1+1+16+2+4+1+1+2+1+128)
	takes(t, o, argv...)
}

// plainWords says options by words, without asking whether that can be done: where options can be said at all, these words say them.
func plainWords(o api.Options) []string {
	var l []string
	for _, m := range []struct {
		bit  api.Mods
		word string
	}{
		{api.ModB, "--ignore-leading-blanks"}, {api.ModD, "--dictionary-order"}, {api.ModF, "--ignore-case"}, {api.ModG, "--general-numeric-sort"}, {api.ModH, "--human-numeric-sort"},
		{api.ModI, "--ignore-nonprinting"}, {api.ModM, "--month-sort"}, {api.ModN, "--numeric-sort"}, {api.ModR, "--reverse"}, {api.ModV, "--version-sort"},
	} {
		if o.Mods&m.bit != 0 {
			l = append(l, m.word)
		}
	}
	if o.Tab != -1 {
		l = append(l, "--field-separator", string([]byte{byte(o.Tab)}))
	}
	for _, k := range o.Keys {
		l = append(l, "--key", plainKey(k))
	}
	for _, f := range []struct {
		is   bool
		word string
	}{{o.Stable, "--stable"}, {o.Unique, "--unique"}, {o.Zero, "--zero-terminated"}, {o.Merge, "--merge"}, {o.Pack, "--pack"}, {o.Check == api.CheckLoud, "--check"}, {o.Check == api.CheckSilent, "--check=silent"}} {
		if f.is {
			l = append(l, f.word)
		}
	}
	if o.HasOutput {
		l = append(l, "--output", o.Output)
	}
	for _, n := range []struct {
		n    int
		name string
		unit string
	}{{o.Lines, "--lines", ""}, {o.Bytes, "--buffer-size", "b"}, {o.Fan, "--batch-size", ""}, {o.Parallel, "--parallel", ""}} {
		if n.n != 0 {
			l = append(l, n.name, strconv.Itoa(n.n)+n.unit)
		}
	}
	if o.Temp != "" {
		l = append(l, "--temporary-prefix", o.Temp)
	}
	if o.Checkpoint != "" {
		l = append(l, "--checkpoint", o.Checkpoint)
	}
	return append(append(l, "--"), o.Files...)
}

func plainKey(k api.Key) string {
	s := strconv.Itoa(k.Field) + "." + strconv.Itoa(k.Char)
	for c, m := range modsByLetter() {
		if k.Mods&m != 0 {
			s += c
		}
	}
	if k.EndField == 0 {
		return s
	}
	s += "," + strconv.Itoa(k.EndField) + "." + strconv.Itoa(k.EndChar)
	if k.EndB {
		s += "b"
	}
	return s
}

// pick takes one of a list.
func pick[T any](r *rand.Rand, l ...T) T { return l[r.Intn(len(l))] }

// anyOptions are options of which most fields are such as argvs give, and now and then one isn't.
func anyOptions(r *rand.Rand) api.Options {
	names := []string{"a", "b", "c", "c.new", "-", "--", "", "-r", "\x00", xs(4096), xs(4097)}
	name := func() string { return names[r.Intn(len(names)-r.Intn(2)*2)] }
	mods := func() api.Mods {
		m := pick[api.Mods](r, 0, 0, api.ModN, api.ModV, api.ModR, api.ModB, api.ModD|api.ModI, api.ModF|api.ModR, 1<<r.Intn(11))
		return m | pick[api.Mods](r, 0, 0, 0, api.ModR, api.ModB, api.ModM, api.ModI)
	}
	o := api.Options{Tab: pick(r, -1, -1, -1, 0, ':', 255, pick(r, -2, 256)), Mods: mods()}
	for range pick(r, 0, 0, 0, 1, 2, 3, 16, 17) {
		k := api.Key{Field: pick(r, 1, 1, 2, 7, api.MaxField), Char: pick(r, 1, 1, 2, api.MaxField), Mods: mods()}
		if r.Intn(2) == 0 {
			k.EndField, k.EndChar, k.EndB = pick(r, 1, 2, 9, api.MaxField), pick(r, 0, 0, 1, 3), r.Intn(4) == 0
		}
		if r.Intn(40) == 0 {
			*pick(r, &k.Field, &k.Char, &k.EndField, &k.EndChar) = pick(r, -1, 0, api.MaxField+1)
		}
		if r.Intn(40) == 0 {
			k.EndB = true
		}
		o.Keys = append(o.Keys, k)
	}
	o.Stable, o.Unique, o.Zero, o.Pack = r.Intn(3) == 0, r.Intn(3) == 0, r.Intn(3) == 0, r.Intn(3) == 0
	o.Check, o.Merge = pick[api.CheckMode](r, 0, 0, 0, 0, 1, 2, 3), r.Intn(5) == 0
	o.HasOutput = r.Intn(2) == 0
	if o.HasOutput || r.Intn(20) == 0 {
		o.Output = name()
	}
	o.Lines = pick(r, 0, 0, 0, 1, 1000, api.MaxLines, pick(r, -1, api.MaxLines+1))
	o.Bytes = pick(r, 0, 0, 0, 1, 1025, api.MaxBytes, pick(r, -1, api.MaxBytes+1))
	o.Fan = pick(r, 0, 0, 0, 2, 9, 64, pick(r, -1, 1, 65))
	o.Parallel = pick(r, 0, 0, 0, 1, 16, pick(r, -1, 17))
	o.Temp = pick(r, "", "", "t", "--", xs(32), pick(r, xs(33), "\x00", "a\x00b"))
	if r.Intn(3) == 0 {
		o.Checkpoint = pick(r, "c", "c", "-", "\x00", name())
	}
	for range pick(r, 0, 0, 1, 1, 2, 3, 128, 129) {
		o.Files = append(o.Files, pick(r, "a", "b", name()))
	}
	return o
}

// P4.7, P4.8: Check takes options just if plain words say them; what Print gives then says them too.
func TestCheckAny(t *testing.T) {
	r := rand.New(rand.NewSource(4))
	taken := 0
	for range 60000 {
		o := anyOptions(r)
		said, _, e := keyspec.Parse(plainWords(o))
		if e != api.OK || !same(said, o) {
			unsaid(t, o)
			continue
		}
		taken++
		argv, e := keyspec.Print(o)
		if e != api.OK || keyspec.Check(o) != api.OK {
			t.Errorf("%s: Print %d, Check %d", brief(plainWords(o)), e, keyspec.Check(o))
			continue
		}
		takes(t, o, argv...)
	}
	if taken < 1000 {
		t.Errorf("only %d options that can be said", taken)
	}
}
