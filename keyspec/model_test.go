package keyspec_test

import (
	"math/rand"
	"slices"
	"strconv"
	"strings"
	"testing"

	"mill/api"
	"mill/keyspec"
)

// The model says the grammar once more, by other means: an argv is first taken apart into pairs of a long name and a value, which are then done one by one.

// pair is an option of an argv, at the word with that number; or what is wrong there.
type pair struct {
	place int
	name  string
	value string
	wrong api.Errno
}

const (
	modelShort  = " b=ignore-leading-blanks d=dictionary-order f=ignore-case g=general-numeric-sort h=human-numeric-sort i=ignore-nonprinting M=month-sort n=numeric-sort r=reverse V=version-sort c=check C=check m=merge s=stable u=unique z=zero-terminated k=key o=output t=field-separator S=buffer-size T=temporary-prefix "
	modelValued = " key output field-separator buffer-size temporary-prefix lines batch-size parallel checkpoint sort "
)

// modelPairs takes an argv apart: into its pairs, up to the first that is wrong, and its operands.
func modelPairs(argv []string) (l []pair, names []string) {
	for i := 0; i < len(argv); i++ {
		if argv[i] == "--" {
			return l, append(names, argv[i+1:]...)
		}
		if len(argv[i]) < 2 || argv[i][0] != '-' {
			names = append(names, argv[i])
			continue
		}
		place := i
		for _, text := range modelLonger(argv[i]) {
			p, next := modelPair(text, argv[i+1:])
			p.place = place
			l = append(l, p)
			if p.wrong != api.OK {
				return l, nil
			}
			i += next
		}
	}
	return l, names
}

// modelPair takes a long option apart, and tells how many of the words behind it belong to it.
func modelPair(text string, behind []string) (pair, int) {
	name, value, given := strings.Cut(strings.TrimPrefix(text, "--"), "=")
	name, e := modelLong(name)
	p := pair{name: name, value: value, wrong: e}
	wants := strings.Contains(modelValued, " "+name+" ")
	switch {
	case e != api.OK:
	case wants && !given && len(behind) == 0:
		p.wrong = api.ErrWant
	case wants && !given:
		p.value = behind[0]
		return p, 1
	case name == "check" && !given:
		p.value = "diagnose-first"
	case name != "check" && !wants && given:
		p.wrong = api.ErrGiven
	}
	return p, 0
}

// modelLonger writes a cluster's options as long ones; a long option stays what it is.
func modelLonger(word string) []string {
	if word[1] == '-' {
		return []string{word}
	}
	var l []string
	for i := 1; i < len(word); i++ {
		c, rest := word[i:i+1], word[i+1:]
		_, name, there := strings.Cut(modelShort, " "+c+"=")
		name, _, _ = strings.Cut(name, " ")
		switch {
		case !there:
			return append(l, "--?")
		case c == "C":
			l = append(l, "--check=quiet")
		case strings.Contains(modelValued, " "+name+" ") && rest != "":
			return append(l, "--"+name+"="+rest)
		default:
			l = append(l, "--"+name)
		}
	}
	return l
}

// modelCount is a number from least on: what it says, at most most; -1: it is none.
func modelCount(s string, least, most int) int {
	if s == "" || strings.Trim(s, "0123456789") != "" {
		return -1
	}
	n, err := strconv.Atoi(s)
	if err != nil {
		n = most
	}
	if n < least {
		return -1
	}
	return min(n, most)
}

func modelSize(s string) int {
	unit := 1024
	for i, c := range []string{"K", "M", "G"} {
		if strings.HasSuffix(s, c) {
			s, unit = strings.TrimSuffix(s, c), 1<<(10*(i+1))
			return modelTimes(s, unit)
		}
	}
	if strings.HasSuffix(s, "b") {
		return modelTimes(strings.TrimSuffix(s, "b"), 1)
	}
	return modelTimes(s, unit)
}

func modelTimes(s string, unit int) int {
	n := modelCount(s, 1, api.MaxBytes)
	if n < 0 {
		return -1
	}
	return min(n*unit, api.MaxBytes)
}

// modelDo does one pair.
func modelDo(o *api.Options, p pair) api.Errno {
	number := func(to *int, n int) api.Errno {
		if n < 0 {
			return api.ErrCount
		}
		*to = n
		return api.OK
	}
	v := p.value
	switch p.name {
	case "ignore-leading-blanks":
		o.Mods |= api.ModB
	case "dictionary-order":
		o.Mods |= api.ModD
	case "ignore-case":
		o.Mods |= api.ModF
	case "ignore-nonprinting":
		o.Mods |= api.ModI
	case "reverse":
		o.Mods |= api.ModR
	case "general-numeric-sort", "human-numeric-sort", "month-sort", "numeric-sort", "version-sort":
		return modelDo(o, pair{name: "sort", value: strings.TrimSuffix(p.name, "-sort")})
	case "sort":
		i := slices.Index([]string{"general-numeric", "human-numeric", "month", "numeric", "version"}, v)
		if i < 0 {
			return api.ErrOption
		}
		o.Mods |= []api.Mods{api.ModG, api.ModH, api.ModM, api.ModN, api.ModV}[i]
	case "merge":
		o.Merge = true
	case "stable":
		o.Stable = true
	case "unique":
		o.Unique = true
	case "zero-terminated":
		o.Zero = true
	case "pack":
		o.Pack = true
	case "lines":
		return number(&o.Lines, modelCount(v, 1, api.MaxLines))
	case "parallel":
		return number(&o.Parallel, modelCount(v, 1, api.MaxParallel))
	case "batch-size":
		if modelCount(v, 2, 65) == 65 {
			return api.ErrCount
		}
		return number(&o.Fan, modelCount(v, 2, 64))
	case "buffer-size":
		return number(&o.Bytes, modelSize(v))
	default:
		return modelDoOnce(o, p)
	}
	return api.OK
}

// modelDoOnce does those that look at what was said before, or at their value.
func modelDoOnce(o *api.Options, p pair) api.Errno {
	v := p.value
	switch p.name {
	case "check":
		mode := map[string]api.CheckMode{"diagnose-first": api.CheckLoud, "quiet": api.CheckSilent, "silent": api.CheckSilent}[v]
		if mode == api.CheckNone {
			return api.ErrOption
		}
		if o.Check+mode == api.CheckLoud+api.CheckSilent {
			return api.ErrConflict
		}
		o.Check = mode
	case "key":
		k, _, e := modelParseKey(v)
		if e != api.OK {
			return e
		}
		o.Keys = append(o.Keys, k)
		if len(o.Keys) > api.MaxKeys {
			return api.ErrKey
		}
	case "output":
		if o.HasOutput && o.Output != v {
			return api.ErrConflict
		}
		o.HasOutput, o.Output = true, v
	case "field-separator":
		if v == `\0` {
			v = "\x00"
		}
		if len(v) != 1 || o.Tab >= 0 && o.Tab != int(v[0]) {
			return api.ErrTab
		}
		o.Tab = int(v[0])
	case "temporary-prefix":
		if len(v) < 1 || len(v) > 32 || strings.Contains(v, "\x00") {
			return api.ErrOperand
		}
		o.Temp = v
	case "checkpoint":
		if v == "" {
			return api.ErrOperand
		}
		o.Checkpoint = v
	}
	return api.OK
}

func modelParse(argv []string) (api.Options, int, api.Errno) {
	o := api.Options{Tab: -1}
	l, names := modelPairs(argv)
	for _, p := range l {
		e := p.wrong
		if e == api.OK {
			e = modelDo(&o, p)
		}
		if e != api.OK {
			return api.Options{}, p.place, e
		}
	}
	o.Files = names
	if e := modelWhole(o); e != api.OK {
		return api.Options{}, len(argv), e
	}
	return o, 0, api.OK
}

func modelWhole(o api.Options) api.Errno {
	used := len(o.Keys) == 0
	for _, k := range o.Keys {
		used = used || k.Mods == 0 && !k.EndB
	}
	if used && !modelTogether(o.Mods) {
		return api.ErrMods
	}
	if o.Check != api.CheckNone && (o.Merge || o.HasOutput) {
		return api.ErrConflict
	}
	if o.Checkpoint != "" {
		if o.Merge || o.Check != api.CheckNone || !o.HasOutput || len(o.Files) == 0 {
			return api.ErrConflict
		}
		for _, name := range []string{o.Checkpoint, o.Checkpoint + ".new"} {
			if o.Output == name || slices.Contains(o.Files, name) || slices.Contains(o.Files, "-") {
				return api.ErrConflict
			}
		}
	}
	if len(o.Files) > 128 || len(o.Files) > 1 && o.Check != api.CheckNone {
		return api.ErrOperand
	}
	return api.OK
}

// likeModel holds Parse against the model; what it takes can be printed.
func likeModel(t *testing.T, argv []string) {
	t.Helper()
	o, place, e := keyspec.Parse(argv)
	wanted, wplace, we := modelParse(argv)
	if !same(o, wanted) || place != wplace || e != we {
		t.Errorf("Parse(%s): %+v, %d, %d, want %+v, %d, %d", brief(argv), o, place, e, wanted, wplace, we)
	}
	if e != api.OK {
		return
	}
	want(t, "Check of "+brief(argv), keyspec.Check(o), api.OK)
	again, e := keyspec.Print(o)
	if e != api.OK {
		t.Errorf("Print of %s: %d", brief(argv), e)
	}
	takes(t, o, again...)
}

// P4.1, P4.8: all argvs of up to three words of a list.
func TestParseAll(t *testing.T) {
	list := []string{
		"a", "-", "--", "", "c", "c.new", "-r", "-n", "-d", "-M", "-c", "-C", "-m", "-sz", "-u", "-q", "-k1", "-k", "-k2n,3b", "-k0", "-knM", "-k1nM", "-rk", "-o", "-oc", "-ot", "-t", "-t:", "-tab", "-S", "-S5b", "-T", "-Tt",
		"--lines=3", "--lines", "--batch-size=64", "--batch-size=65", "--parallel=99", "--pack", "--pack=", "--checkpoint=c", "--checkp", "--check", "--check=silent", "--ch", "--sort=version", "--sort", "--s", "--x", "--=", "7", "month",
	}
	likeModel(t, nil)
	for _, a := range list {
		likeModel(t, []string{a})
		for _, b := range list {
			likeModel(t, []string{a, b})
			for _, c := range list {
				likeModel(t, []string{a, b, c})
			}
		}
	}
}

// P4.1, P4.8, P4.10: long argvs of pieces, and of any bytes.
func TestParseStrange(t *testing.T) {
	pieces := []string{
		"-", "-", "--", "=", "b", "d", "f", "g", "h", "i", "M", "n", "r", "V", "c", "C", "m", "s", "u", "z", "k", "o", "t", "S", "T", "1", "2", "0", ".", ",", "64", "G", "K", `\0`, "\x00", "\xff", " ", "é",
		"-k1", "-k2.3,4", "-t", "--key", "--key=1", "--out", "--lines=", "--batch-size=7", "--par", "--checkpoint", "--sort=", "month", "numeric", "quiet", "--check=", "a", "b", "c", "c.new", "-oo", "--checkpoint=c",
	}
	r := rand.New(rand.NewSource(14))
	for range 100000 {
		argv := make([]string, r.Intn(7))
		for i := range argv {
			for range 1 + r.Intn(3) {
				if r.Intn(30) == 0 {
					argv[i] += string([]byte{byte(r.Intn(256))})
				} else {
					argv[i] += pieces[r.Intn(len(pieces))]
				}
			}
		}
		likeModel(t, argv)
	}
}

// P4.1: argvs most of which are taken.
func TestParseMany(t *testing.T) {
	r := rand.New(rand.NewSource(24))
	list := []string{"-r", "-b", "-f", "-s", "-u", "-z", "-k1", "-k2n", "-k3.4b,5.6r", "-k1,1b", "-t:", "-S9M", "-S", "5b", "-Tt", "--lines=9", "--batch-size", "8", "--parallel=3", "--pack", "-oo", "a", "a", "b", "--checkpoint=c", "--reverse"}
	taken := 0
	for range 20000 {
		argv := make([]string, r.Intn(20))
		for i := range argv {
			argv[i] = list[r.Intn(len(list))]
		}
		likeModel(t, argv)
		if _, _, e := keyspec.Parse(argv); e == api.OK {
			taken++
		}
	}
	if taken < 1000 {
		t.Errorf("only %d argvs are taken", taken)
	}
}
