package keyspec_test

import (
	"fmt"
	"slices"
	"strings"
	"testing"

	"mill/api"
	"mill/keyspec"
)

// P4.1: what stands where nothing is given.
func TestParseNothing(t *testing.T) {
	takes(t, api.Options{Tab: -1})
	takes(t, api.Options{Tab: -1}, "--")
	o, place, e := keyspec.Parse(nil)
	if !same(o, api.Options{Tab: -1}) || place != 0 || e != api.OK {
		t.Errorf("Parse(nil): %+v, %d, %d", o, place, e)
	}
}

// P4.1: the bounds of an argv come ahead of all that its words say.
func TestParseBounds(t *testing.T) {
	takes(t, none(func(o *api.Options) { o.Mods = api.ModR }), words(api.MaxWords, "-r")...)
	refuses(t, api.MaxWords, api.ErrArg, words(api.MaxWords+1, "-r")...)
	refuses(t, api.MaxWords, api.ErrArg, words(2*api.MaxWords, "-q")...)
	takes(t, files(xs(api.MaxWord)), xs(api.MaxWord))
	refuses(t, 0, api.ErrArg, xs(api.MaxWord+1))
	refuses(t, 2, api.ErrArg, "a", "b", xs(api.MaxWord+1), xs(api.MaxWord+1))
	refuses(t, 3, api.ErrArg, "-q", "--q", "-k0", "-"+strings.Repeat("r", api.MaxWord))
	refuses(t, 1, api.ErrArg, "-o", xs(api.MaxWord+1))
	refuses(t, 1, api.ErrArg, "--", xs(api.MaxWord+1))
	refuses(t, 255, api.ErrArg, append(words(255, "-r"), xs(api.MaxWord+1))...)
	// Too many words come ahead of a word that is too long.
	refuses(t, api.MaxWords, api.ErrArg, append(words(api.MaxWords, "-r"), xs(api.MaxWord+1))...)
	takes(t, none(func(o *api.Options) { o.Mods = api.ModR }), "-"+strings.Repeat("r", api.MaxWord-1))
	takes(t, none(func(o *api.Options) { o.HasOutput, o.Output = true, xs(api.MaxWord) }), "-o", xs(api.MaxWord))
}

// The grammar: which words are operands.
func TestOperands(t *testing.T) {
	for _, word := range []string{"", "-", "a", "a-b", "a--b", "=", "k=1", " -r", "\x00", "\xff\n"} {
		takes(t, files(word), word)
		takes(t, files(word, word), word, word)
		takes(t, files(word), "--", word)
	}
	for _, word := range []string{"--", "-r", "-q", "-k", "--stable", "--nothing", "--=", "---"} {
		takes(t, files(word), "--", word)
		takes(t, files("a", word, "b"), "a", "--", word, "b")
	}
	reversed := func(o *api.Options) { o.Mods, o.Files = api.ModR, []string{"a", "b"} }
	takes(t, none(reversed), "-r", "a", "b")
	takes(t, none(reversed), "a", "-r", "b")
	takes(t, none(reversed), "a", "b", "--rev")
	takes(t, none(reversed), "-r", "--", "a", "b")
	takes(t, files("a", "a", "", "a"), "a", "a", "", "a")
}

// The grammar: each byte of a cluster is an option of the table, or ErrOption.
func TestCluster(t *testing.T) {
	wanted := map[string]api.Options{
		"c": none(func(o *api.Options) { o.Check = api.CheckLoud }),
		"C": none(func(o *api.Options) { o.Check = api.CheckSilent }),
		"m": none(func(o *api.Options) { o.Merge = true }),
		"s": none(func(o *api.Options) { o.Stable = true }),
		"u": none(func(o *api.Options) { o.Unique = true }),
		"z": none(func(o *api.Options) { o.Zero = true }),
	}
	for c, m := range modsByLetter() {
		wanted[c] = none(func(o *api.Options) { o.Mods = m })
	}
	for i := range 256 {
		c := string([]byte{byte(i)})
		o, there := wanted[c]
		switch {
		case there:
			takes(t, o, "-"+c)
			takes(t, o, "-"+c+c)
			o.Mods |= api.ModF
			takes(t, o, "-f"+c)
			takes(t, o, "-"+c+"f")
		case strings.Contains("kotST", c):
			refuses(t, 0, api.ErrWant, "-"+c)
			refuses(t, 1, api.ErrWant, "a", "-r"+c)
		case c == "-":
			takes(t, none(), "--")
			refuses(t, 0, api.ErrOption, "-r-")
		default:
			refuses(t, 0, api.ErrOption, "-"+c)
			refuses(t, 1, api.ErrOption, "a", "-r"+c)
			refuses(t, 0, api.ErrOption, "-"+c+"r")
		}
	}
	takes(t, none(func(o *api.Options) {
		o.Mods, o.Stable, o.Unique, o.Zero, o.Merge = api.ModB|api.ModD|api.ModF|api.ModI|api.ModR, true, true, true, true
	}), "-bsdufzimr")
}

// The grammar: the long names that want no value, each with its options; a value is refused, also an empty one.
func TestLongFlags(t *testing.T) {
	for name, change := range map[string]func(o *api.Options){
		"ignore-leading-blanks": func(o *api.Options) { o.Mods = api.ModB },
		"dictionary-order":      func(o *api.Options) { o.Mods = api.ModD },
		"ignore-case":           func(o *api.Options) { o.Mods = api.ModF },
		"general-numeric-sort":  func(o *api.Options) { o.Mods = api.ModG },
		"human-numeric-sort":    func(o *api.Options) { o.Mods = api.ModH },
		"ignore-nonprinting":    func(o *api.Options) { o.Mods = api.ModI },
		"month-sort":            func(o *api.Options) { o.Mods = api.ModM },
		"numeric-sort":          func(o *api.Options) { o.Mods = api.ModN },
		"reverse":               func(o *api.Options) { o.Mods = api.ModR },
		"version-sort":          func(o *api.Options) { o.Mods = api.ModV },
		"merge":                 func(o *api.Options) { o.Merge = true },
		"stable":                func(o *api.Options) { o.Stable = true },
		"unique":                func(o *api.Options) { o.Unique = true },
		"zero-terminated":       func(o *api.Options) { o.Zero = true },
		"pack":                  func(o *api.Options) { o.Pack = true },
	} {
		takes(t, none(change), "--"+name)
		takes(t, none(change), "--"+name, "--"+name)
		refuses(t, 0, api.ErrGiven, "--"+name+"=")
		refuses(t, 1, api.ErrGiven, "a", "--"+name+"=1")
		refuses(t, 0, api.ErrGiven, "--"+name+"==")
		refuses(t, 0, api.ErrOption, "--"+name+"x")
		takes(t, none(change, func(o *api.Options) { o.Files = []string{"x"} }), "--"+name, "x")
	}
}

// The grammar: --check has a value behind = alone, and only one of three.
func TestCheckOption(t *testing.T) {
	loud := none(func(o *api.Options) { o.Check = api.CheckLoud })
	silent := none(func(o *api.Options) { o.Check = api.CheckSilent })
	takes(t, loud, "--check")
	takes(t, loud, "--check=diagnose-first")
	takes(t, silent, "--check=quiet")
	takes(t, silent, "--check=silent")
	for _, value := range []string{"", "q", "quie", "quiets", "diagnose", "Quiet", "loud", "=quiet", "c"} {
		refuses(t, 1, api.ErrOption, "-r", "--check="+value)
	}
	// The next word is none of its values.
	takes(t, none(func(o *api.Options) { o.Check, o.Files = api.CheckLoud, []string{"quiet"} }), "--check", "quiet")
	for _, c := range []string{"-c", "--check", "--check=diagnose-first"} {
		for _, s := range []string{"-C", "--check=quiet", "--check=silent"} {
			refuses(t, 1, api.ErrConflict, c, s)
			refuses(t, 2, api.ErrConflict, s, "a", c)
			takes(t, loud, c, "-c", c)
			takes(t, silent, s, "-C", s)
		}
	}
	refuses(t, 0, api.ErrConflict, "-Cc")
	refuses(t, 0, api.ErrConflict, "-cC", "-q")
	takes(t, loud, "-cc", "-c")
	takes(t, silent, "-CC")
}

// valued are the options that want a value: how they are written, a value, and what it says.
func valued() []struct {
	word  string
	value string
	says  func(o *api.Options)
} {
	type row = struct {
		word  string
		value string
		says  func(o *api.Options)
	}
	key := func(o *api.Options) { o.Keys = append(o.Keys, api.Key{Field: 2, Char: 1}) }
	output := func(o *api.Options) { o.HasOutput, o.Output = true, "-x=y" }
	tab := func(o *api.Options) { o.Tab = '=' }
	size := func(o *api.Options) { o.Bytes = 5 }
	temp := func(o *api.Options) { o.Temp = "=-t" }
	return []row{
		{"-k", "2", key}, {"--key", "2", key}, {"--k", "2", key},
		{"-o", "-x=y", output}, {"--output", "-x=y", output}, {"--o", "-x=y", output},
		{"-t", "=", tab}, {"--field-separator", "=", tab}, {"--f", "=", tab},
		{"-S", "5b", size}, {"--buffer-size", "5b", size}, {"--bu", "5b", size},
		{"-T", "=-t", temp}, {"--temporary-prefix", "=-t", temp}, {"--t", "=-t", temp},
		{"--lines", "7", func(o *api.Options) { o.Lines = 7 }},
		{"--batch-size", "7", func(o *api.Options) { o.Fan = 7 }},
		{"--parallel", "7", func(o *api.Options) { o.Parallel = 7 }},
		{"--sort", "month", func(o *api.Options) { o.Mods = api.ModM }},
	}
}

// The grammar: where a value stands: behind the letter or the =, else it is the next word, whatever that is.
func TestValues(t *testing.T) {
	for _, c := range valued() {
		joined := c.word + "=" + c.value
		if c.word[1] != '-' {
			joined = c.word + c.value
			takes(t, none(c.says, func(o *api.Options) { o.Stable = true }), "-s"+c.word[1:]+c.value)
			takes(t, none(c.says, func(o *api.Options) { o.Stable = true }), "-s"+c.word[1:], c.value)
		}
		takes(t, none(c.says), joined)
		takes(t, none(c.says), c.word, c.value)
		takes(t, none(c.says, func(o *api.Options) { o.Files = []string{"a", c.value} }), "a", joined, "--", c.value)
		takes(t, none(c.says, func(o *api.Options) { o.Files = []string{"a", c.value} }), "a", c.word, c.value, "--", c.value)
		refuses(t, 0, api.ErrWant, c.word)
		refuses(t, 2, api.ErrWant, "a", "-r", c.word)
	}
	takes(t, none(func(o *api.Options) {
		o.HasOutput, o.Output, o.Checkpoint, o.Files = true, "--", "-r", []string{"a"}
	}), "-o", "--", "--checkpoint", "-r", "a")
	takes(t, none(func(o *api.Options) {
		o.HasOutput, o.Output, o.Checkpoint, o.Files = true, "", "a=b", []string{"a"}
	}), "--output=", "--checkpoint=a=b", "a")
	// A value that is the next word is neither option nor operand.
	takes(t, none(func(o *api.Options) { o.HasOutput, o.Output = true, "-o" }), "-o", "-o")
	takes(t, none(func(o *api.Options) { o.HasOutput, o.Output, o.Files = true, "", []string{"a"} }), "-o", "", "a")
	takes(t, none(func(o *api.Options) { o.HasOutput, o.Output = true, "--" }), "-o", "--", "-o", "--")
	takes(t, none(func(o *api.Options) { o.HasOutput, o.Output = true, "-k2" }), "-o-k2")
	takes(t, none(func(o *api.Options) { o.Temp = "--" }), "-T", "--", "--")
	takes(t, none(func(o *api.Options) { o.Tab = '-' }), "-t-")
	takes(t, none(func(o *api.Options) { o.Tab = '-' }), "-t", "-")
	refuses(t, 0, api.ErrKey, "-k", "--", "a")
	refuses(t, 0, api.ErrKey, "-k", "", "a")
	refuses(t, 0, api.ErrKey, "--key=", "2")
	refuses(t, 0, api.ErrTab, "-t", "", "a")
	refuses(t, 0, api.ErrTab, "--field-separator=")
	refuses(t, 0, api.ErrCount, "--lines=", "2")
	refuses(t, 0, api.ErrOption, "--sort=", "month")
}

// The grammar: the separator is one byte, any of them, or \0; and only one.
func TestTab(t *testing.T) {
	for i := range 256 {
		c := string([]byte{byte(i)})
		tab := none(func(o *api.Options) { o.Tab = i })
		takes(t, tab, "-t"+c)
		takes(t, tab, "-t", c, "--field-separator="+c)
		refuses(t, 1, api.ErrTab, "-t"+c, "-t"+string([]byte{byte(i + 1)}))
	}
	zero := none(func(o *api.Options) { o.Tab = 0 })
	takes(t, zero, `-t\0`)
	takes(t, zero, "-t", `\0`)
	takes(t, zero, `--field-separator=\0`, "-t\x00", `-t\0`)
	takes(t, none(func(o *api.Options) { o.Tab = '\\' }), `-t\`)
	for _, value := range []string{"ab", "::", `\t`, `\1`, `\00`, "0\\", `\0\0`, "é", "\x00\x00"} {
		refuses(t, 0, api.ErrTab, "-t"+value)
		refuses(t, 1, api.ErrTab, "a", "-t", value)
	}
	refuses(t, 1, api.ErrTab, `-t\0`, "-t0")
	refuses(t, 1, api.ErrTab, "-t0", `-t\0`)
	refuses(t, 1, api.ErrTab, "-t:", "-t::")
}

// The grammar: numbers of --lines, --parallel and --batch-size, their bounds, and which saturate.
func TestCounts(t *testing.T) {
	most := strings.Repeat("9", 4000)
	for _, c := range []struct {
		name   string
		value  string
		wanted int
	}{
		{"lines", "1", 1}, {"lines", "0001", 1}, {"lines", "1048575", 1048575}, {"lines", "1048576", 1048576}, {"lines", "1048577", 1048576}, {"lines", most, 1048576}, {"lines", "18446744073709551617", 1048576},
		{"parallel", "1", 1}, {"parallel", "15", 15}, {"parallel", "16", 16}, {"parallel", "17", 16}, {"parallel", "0000016", 16}, {"parallel", most, 16}, {"parallel", "18446744073709551617", 16},
		{"batch-size", "2", 2}, {"batch-size", "63", 63}, {"batch-size", "64", 64}, {"batch-size", "0064", 64}, {"batch-size", "0002", 2},
	} {
		takes(t, none(func(o *api.Options) {
			switch c.name {
			case "lines":
				o.Lines = c.wanted
			case "parallel":
				o.Parallel = c.wanted
			default:
				o.Fan = c.wanted
			}
		}), "--"+c.name+"="+c.value)
	}
	for _, name := range []string{"lines", "parallel", "batch-size"} {
		for _, value := range []string{"", "0", "000", "-2", "+2", "2 ", " 2", "2x", "x", "0x2", "2.0", "2K", "1e1", "2\x00"} {
			refuses(t, 0, api.ErrCount, "--"+name+"="+value)
			refuses(t, 1, api.ErrCount, "a", "--"+name, value)
		}
	}
	for _, value := range []string{"1", "65", "66", "100", "640", most, "18446744073709551618"} {
		refuses(t, 0, api.ErrCount, "--batch-size="+value)
	}
	refuses(t, 0, api.ErrCount, "-S0")
	refuses(t, 0, api.ErrCount, "-S", "5k")
	takes(t, none(func(o *api.Options) { o.Bytes = 1024 }), "-S1")
	takes(t, none(func(o *api.Options) { o.Bytes = api.MaxBytes }), "-S64M", "-S", most)
}

// The grammar: --sort takes five words, and adds their modifier.
func TestSortOption(t *testing.T) {
	for value, m := range map[string]api.Mods{"general-numeric": api.ModG, "human-numeric": api.ModH, "month": api.ModM, "numeric": api.ModN, "version": api.ModV} {
		takes(t, none(func(o *api.Options) { o.Mods = m }), "--sort="+value)
		takes(t, none(func(o *api.Options) { o.Mods = m | api.ModR }), "-r", "--sort", value)
		refuses(t, 0, api.ErrOption, "--sort="+value+"-sort")
		refuses(t, 0, api.ErrOption, "--sort="+value[1:])
		refuses(t, 0, api.ErrOption, "--sort="+value[:len(value)-1])
		refuses(t, 0, api.ErrOption, "--sort="+strings.ToUpper(value))
	}
	for _, value := range []string{"", "n", "reverse", "dictionary", "sort", "check", "=month", "-sort", "month ", "ignore-case"} {
		refuses(t, 0, api.ErrOption, "--sort="+value)
	}
	refuses(t, 2, api.ErrMods, "--sort=month", "--sort=version")
}

// The grammar: prefixes of temporary files, and checkpoints.
func TestTempAndCheckpoint(t *testing.T) {
	for _, value := range []string{"t", "-", "--", "\x01", "\xff/", xs(api.MaxPrefix)} {
		takes(t, none(func(o *api.Options) { o.Temp = value }), "-T", value)
		takes(t, none(func(o *api.Options) { o.Temp = value }), "--temporary-prefix="+value)
	}
	for _, value := range []string{"", "\x00", "a\x00", "\x00a", xs(api.MaxPrefix + 1), xs(api.MaxWord)} {
		refuses(t, 1, api.ErrOperand, "a", "-T", value)
		refuses(t, 1, api.ErrOperand, "a", "--temporary-prefix", value)
	}
	refuses(t, 0, api.ErrOperand, "--temporary-prefix=")
	refuses(t, 0, api.ErrOperand, "--checkpoint=", "-oo", "a")
	refuses(t, 2, api.ErrOperand, "a", "-oo", "--checkpoint", "")
	for _, value := range []string{"c", "-c", "--", "\x00", " ", xs(api.MaxWord)} {
		takes(t, none(func(o *api.Options) {
			o.Checkpoint, o.HasOutput, o.Output, o.Files = value, true, "o", []string{"a"}
		}), "--checkpoint", value, "-oo", "a")
	}
}

// The grammar: as many keys as may be, in their order, and one more; a bad one is told ahead of that.
func TestManyKeys(t *testing.T) {
	var argv []string
	var keys []api.Key
	for i := range api.MaxKeys {
		argv = append(argv, fmt.Sprintf("-k%d", i+1))
		keys = append(keys, api.Key{Field: i + 1, Char: 1})
	}
	takes(t, none(func(o *api.Options) { o.Keys = keys }), argv...)
	takes(t, none(func(o *api.Options) { o.Keys, o.Files = keys, []string{"a"} }), append(argv, "a")...)
	refuses(t, 16, api.ErrKey, append(argv, "-k1")...)
	refuses(t, 17, api.ErrKey, append(argv, "a", "--key", "1", "-q")...)
	refuses(t, 16, api.ErrKey, append(argv, "-k0")...)
	refuses(t, 16, api.ErrMods, append(argv, "-k1nM")...)
	takes(t, none(func(o *api.Options) { o.Keys = []api.Key{{Field: 2, Char: 1}, {Field: 2, Char: 1}} }), "-k2", "-k2")
	refuses(t, 1, api.ErrMods, "a", "-k", "1nd")
	refuses(t, 0, api.ErrMods, "-k1n,2i")
}

// The grammar: given once more with the same value, or with another one.
func TestGivenOnceMore(t *testing.T) {
	takes(t, none(func(o *api.Options) { o.HasOutput, o.Output = true, "x" }), "-o", "x", "-ox", "--output=x")
	takes(t, none(func(o *api.Options) { o.HasOutput = true }), "-o", "", "--output=")
	refuses(t, 2, api.ErrConflict, "-o", "x", "-oy")
	refuses(t, 2, api.ErrConflict, "-o", "x", "--output", "")
	refuses(t, 2, api.ErrConflict, "-o", "", "-ox")
	takes(t, none(func(o *api.Options) {
		o.Lines, o.Bytes, o.Fan, o.Parallel, o.Temp, o.Checkpoint = 2, 2, 2, 2, "u", "d"
		o.HasOutput, o.Output, o.Files = true, "o", []string{"a"}
	}), "--lines=1", "-S1b", "--batch-size=3", "--parallel=9", "-Tt", "--checkpoint=c", "--lines=2", "-S2b", "--batch-size=2", "--parallel=2", "-Tu", "--checkpoint=d", "-oo", "a")
	// The last one counts, but none may be bad.
	refuses(t, 0, api.ErrCount, "--lines=0", "--lines=1")
	refuses(t, 1, api.ErrOperand, "-Tt", "-T", "")
}

// P4.1: of several errors the first is told, by the words from the first to the last, and the bytes of a cluster from the left.
func TestFirstError(t *testing.T) {
	refuses(t, 0, api.ErrOption, "-q", "-k0")
	refuses(t, 0, api.ErrKey, "-k0", "-q")
	refuses(t, 0, api.ErrOption, "-rqk0")
	refuses(t, 0, api.ErrKey, "-rk0q")
	refuses(t, 0, api.ErrConflict, "-cCq")
	refuses(t, 0, api.ErrOption, "-cqC")
	refuses(t, 1, api.ErrAmbig, "a", "--s", "--nothing")
	refuses(t, 1, api.ErrOption, "a", "--nothing", "--s")
	refuses(t, 2, api.ErrGiven, "-nM", "a", "--pack=")
	refuses(t, 1, api.ErrOption, "-cm", "-q")
	refuses(t, 4, api.ErrWant, "-c", "a", "b", "c", "-k")
	// An option's place is where its letter stands, also where its value is the next word.
	refuses(t, 2, api.ErrKey, "a", "-r", "-k", "0", "-q")
	refuses(t, 1, api.ErrCount, "a", "--lines", "0")
	refuses(t, 3, api.ErrConflict, "-o", "x", "a", "-o", "y")
}

// P4.1: the first thing that is asked of the whole: ErrMods, by Effective's keys.
func TestWholeMods(t *testing.T) {
	for _, argv := range [][]string{{"-nM"}, {"-n", "-V"}, {"-nd"}, {"-in"}, {"--sort=month", "-g"}, {"-nMk1"}, {"-nM", "-k1n", "-k2"}, {"-ndk1,2.3"}, {"-hi", "a", "b"}} {
		refuses(t, len(argv), api.ErrMods, argv...)
	}
	key := func(m api.Mods, b bool) func(o *api.Options) {
		return func(o *api.Options) {
			o.Mods, o.Keys = api.ModN|api.ModM, []api.Key{{Field: 1, Char: 1, Mods: m}}
			if b {
				o.Keys[0].EndField, o.Keys[0].EndB = 2, true
			}
		}
	}
	// A key with a modifier of its own has none of the global ones; b of its end is one.
	takes(t, none(key(api.ModB, false)), "-nM", "-k1b")
	takes(t, none(key(0, true)), "-nM", "-k1,2b")
	takes(t, none(key(api.ModR, false)), "-nM", "-k1r")
	// It comes ahead of ErrConflict and ErrOperand.
	refuses(t, 4, api.ErrMods, "-cm", "-nd", "a", "b")
	refuses(t, 3, api.ErrMods, "--checkpoint=c", "-nM", "a")
}

// P4.1: the second one: ErrConflict.
func TestWholeConflict(t *testing.T) {
	for _, c := range []string{"-c", "-C", "--check=silent"} {
		refuses(t, 2, api.ErrConflict, c, "-m")
		refuses(t, 3, api.ErrConflict, c, "-o", "x")
		refuses(t, 5, api.ErrConflict, "-m", "a", "b", "c", c)
	}
	for _, argv := range [][]string{
		{"--checkpoint=c", "-oo", "a", "-m"},
		{"--checkpoint=c", "-oo", "a", "-c"},
		{"--checkpoint=c", "a", "-C"},
		{"--checkpoint=c", "a"},
		{"--checkpoint=c", "-oo"},
		{"--checkpoint=c", "-oo", "-"},
		{"--checkpoint=c", "-oo", "a", "--", "-"},
		{"--checkpoint=c", "-oo", "c"},
		{"--checkpoint=c", "-oo", "a", "c", "b"},
		{"--checkpoint=c", "-oo", "c.new"},
		{"--checkpoint=c", "-oo", "a", "b", "c.new"},
		{"--checkpoint=c", "-oc", "a"},
		{"--checkpoint=c", "-oc.new", "a"},
		{"--checkpoint=c"},
	} {
		refuses(t, len(argv), api.ErrConflict, argv...)
	}
	resumes := func(c, out string, names ...string) {
		t.Helper()
		argv := append([]string{"--checkpoint", c, "-o", out, "--"}, names...)
		takes(t, none(func(o *api.Options) { o.Checkpoint, o.HasOutput, o.Output, o.Files = c, true, out, names }), argv...)
	}
	resumes("c", "o", "a")
	resumes("c", "a", "a")
	resumes("c", "-", "a", "b")
	resumes("c", "", "")
	resumes("c", "c.new.new", "c.ne", "c.newer", ".new", "C", "cc")
	resumes("c.new", "c", "c")
	resumes("-", "o", "a")
	// It comes ahead of ErrOperand.
	refuses(t, 3, api.ErrConflict, "-cm", "a", "b")
	refuses(t, 133, api.ErrConflict, append(words(131, "a"), "-m", "-c")...)
}

// P4.1: the third one: ErrOperand.
func TestWholeOperands(t *testing.T) {
	takes(t, files(words(api.MaxOperands, "a")...), words(api.MaxOperands, "a")...)
	refuses(t, 129, api.ErrOperand, words(api.MaxOperands+1, "a")...)
	refuses(t, 131, api.ErrOperand, append([]string{"-r", "--"}, words(api.MaxOperands+1, "a")...)...)
	refuses(t, 256, api.ErrOperand, words(api.MaxWords, "")...)
	for _, c := range []struct {
		word string
		mode api.CheckMode
	}{{"-c", api.CheckLoud}, {"-C", api.CheckSilent}} {
		takes(t, none(func(o *api.Options) { o.Check = c.mode }), c.word)
		takes(t, none(func(o *api.Options) { o.Check, o.Files = c.mode, []string{"a"} }), c.word, "a")
		takes(t, none(func(o *api.Options) { o.Check, o.Files = c.mode, []string{"-"} }), c.word, "-")
		refuses(t, 3, api.ErrOperand, c.word, "a", "a")
		refuses(t, 4, api.ErrOperand, "-", c.word, "--", "-")
	}
}

// P4.4.
func size(t *testing.T, s string, wanted int, e api.Errno) {
	t.Helper()
	n, err := keyspec.Size(s)
	if n != wanted || err != e {
		t.Errorf("Size(%.40q): %d, %d, want %d, %d", s, n, err, wanted, e)
	}
}

// P4.4: units, saturation, and what is no size.
func TestSize(t *testing.T) {
	for s, wanted := range map[string]int{
		"1": 1 << 10, "1b": 1, "1K": 1 << 10, "1M": 1 << 20, "1G": api.MaxBytes,
		"007": 7 << 10, "007b": 7, "64M": 64 << 20, "63M": 63 << 20, "65M": api.MaxBytes,
		"65536": 1 << 26, "65535K": 65535 << 10, "65537K": api.MaxBytes,
		"67108863b": 67108863, "67108864b": 67108864, "67108865b": 67108864,
		"17179869184G": api.MaxBytes, "18014398509481984K": api.MaxBytes, "18446744073709551617b": api.MaxBytes, "4294967297b": api.MaxBytes,
	} {
		size(t, s, wanted, api.OK)
	}
	size(t, strings.Repeat("9", 100000), api.MaxBytes, api.OK)
	size(t, strings.Repeat("9", 100000)+"b", api.MaxBytes, api.OK)
	size(t, strings.Repeat("0", 100000)+"1b", 1, api.OK)
	for _, s := range []string{"", "0", "00", "0b", "0K", "0M", "0G", "b", "K", "M", "G", "1k", "1B", "1m", "1g", "1T", "1bb", "1Kb", "1 ", " 1", "1 K", "-1", "+1", "1.5", "1,5", "1K1", "1%", "1\x00", "x", "\xff", "1\xff", "/", ":", "1/", "1:"} {
		size(t, s, 0, api.ErrCount)
	}
}

// P4.4: all short texts: of at most four digits the product is easily told.
func TestSizeAll(t *testing.T) {
	units := map[string]int{"": 1 << 10, "b": 1, "K": 1 << 10, "M": 1 << 20, "G": 1 << 30}
	for _, s := range texts("019bKMGk", 4) {
		head := strings.TrimLeft(s, "019")
		unit, there := units[head]
		n := 0
		for _, c := range s[:len(s)-len(head)] {
			n = 10*n + int(c-'0')
		}
		if !there || n == 0 {
			size(t, s, 0, api.ErrCount)
		} else {
			size(t, s, min(n*unit, api.MaxBytes), api.OK)
		}
	}
}

// P4.6: what keys have of their own and what they inherit.
func TestEffective(t *testing.T) {
	plain := api.Key{Field: 2, Char: 3, EndField: 4, EndChar: 5}
	with := func(k api.Key, m api.Mods, b bool) api.Key {
		k.Mods, k.EndB = m, b
		return k
	}
	bare := api.Key{Field: 1, Char: 1}
	all := api.ModR<<1 - 1
	for _, c := range []struct {
		mods   api.Mods
		keys   []api.Key
		wanted []api.Key
	}{
		{0, nil, []api.Key{bare}},
		{0, []api.Key{}, []api.Key{bare}},
		{api.ModR, nil, []api.Key{with(bare, api.ModR, false)}},
		{api.ModB, nil, []api.Key{with(bare, api.ModB, true)}},
		{api.ModB | api.ModN, nil, []api.Key{with(bare, api.ModB|api.ModN, true)}},
		{all, nil, []api.Key{with(bare, all, true)}},
		{0, []api.Key{plain}, []api.Key{plain}},
		{api.ModN | api.ModR, []api.Key{plain}, []api.Key{with(plain, api.ModN|api.ModR, false)}},
		{api.ModB | api.ModF, []api.Key{plain}, []api.Key{with(plain, api.ModB|api.ModF, true)}},
		{api.ModB | api.ModF, []api.Key{with(plain, api.ModR, false)}, []api.Key{with(plain, api.ModR, false)}},
		{api.ModB | api.ModF, []api.Key{with(plain, api.ModB, false)}, []api.Key{with(plain, api.ModB, false)}},
		{api.ModB | api.ModF, []api.Key{with(plain, 0, true)}, []api.Key{with(plain, 0, true)}},
		{api.ModN, []api.Key{with(plain, 0, true)}, []api.Key{with(plain, 0, true)}},
		{api.ModR, []api.Key{plain, with(bare, api.ModV, false), bare}, []api.Key{with(plain, api.ModR, false), with(bare, api.ModV, false), with(bare, api.ModR, false)}},
	} {
		o := api.Options{Mods: c.mods, Keys: c.keys, Tab: -1, Stable: true}
		if keys := keyspec.Effective(o); !slices.Equal(keys, c.wanted) {
			t.Errorf("Effective(%d, %+v): %+v, want %+v", c.mods, c.keys, keys, c.wanted)
		}
	}
	// Options that no argv says have keys, too.
	odd := []api.Key{{Field: -1, Mods: 1 << 15}, {}}
	if keys := keyspec.Effective(api.Options{Mods: 1 << 12, Keys: odd}); !slices.Equal(keys, []api.Key{odd[0], {Mods: 1 << 12}}) {
		t.Errorf("Effective: %+v", keys)
	}
}
