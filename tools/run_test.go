package tools_test

import (
	"fmt"
	"strings"
	"testing"

	"mill/api"
	"mill/simfs"
	"mill/tools"
)

// P14.1: the ten, and no other name.
func TestKnown(t *testing.T) {
	for _, name := range names {
		want(t, name, tools.Known(name), true)
	}
	for _, name := range []string{"", "sort", "Cat", "cat ", " cat", "ca", "catt", "CAT", "rm", "mv", "true", "-", "cat\x00", "\xff"} {
		want(t, name, tools.Known(name), false)
	}
}

// P14.1: nothing to run on comes ahead of nothing to run; neither makes a call.
func TestNothingToRun(t *testing.T) {
	s := world{files: files{"a": "x\n"}}.system(t, api.FsConfig{})
	in, out, errs := s.Input([]byte("y\n")), s.Sink(-1), s.Sink(-1)
	for _, argv := range [][]string{{"cat", "a"}, {"echo"}, {"cut"}, {"nothing"}, {""}, {}, nil} {
		for i := range 16 {
			fs, in, out, errs := s, in, out, errs
			if i&1 > 0 {
				fs = nil
			}
			if i&2 > 0 {
				in = nil
			}
			if i&4 > 0 {
				out = nil
			}
			if i&8 > 0 {
				errs = nil
			}
			wanted := api.ErrNil
			switch {
			case i == 0 && (len(argv) == 0 || !tools.Known(argv[0])):
				wanted = api.ErrTool
			case i == 0:
				continue
			}
			status, e := tools.Run(fs, argv, in, out, errs)
			what := fmt.Sprintf("%q, without %04b", argv, i)
			want(t, what+": status", status, 0)
			want(t, what, e, wanted)
		}
	}
	want(t, "calls", s.Stats().Calls, 0)
}

// P14.1: Files that nobody made are refused, and nothing panics.
func TestBareFiles(t *testing.T) {
	for _, name := range names {
		for _, words := range [][]string{nil, {"a"}, {"a", "-"}, {"-f", "1"}} {
			argv := append([]string{name}, words...)
			tools.Run(&simfs.FS{}, argv, &simfs.File{}, &simfs.File{}, &simfs.File{})
		}
	}
	s := world{}.system(t, api.FsConfig{})
	out, errs := s.Sink(-1), s.Sink(-1)
	status, e := tools.Run(s, []string{"cat"}, &simfs.File{}, out, errs)
	want(t, "status", status, 1)
	want(t, "why", e, api.OK)
	want(t, "diagnostics", string(errs.Taken()), "cat: -: errno 1\n")
	errs = s.Sink(-1)
	status, _ = tools.Run(s, []string{"echo"}, s.Input(nil), s.Input(nil), errs)
	want(t, "status", status, 1)
	want(t, "diagnostics", string(errs.Taken()), "echo: output: errno 17\n")
}

// P14.2: words that may not be, of each tool.
func TestUsage(t *testing.T) {
	w := world{stdin: "in\n", files: files{"a": "x\n", "b": "y\n", "c": "z\n"}}
	for name, l := range map[string]string{
		"cat":  "-x|-nx|-xn|-n5|-5|--n|---|-n -s -v|-\xff|-:|-é|-S|-n\x00",
		"head": "-n|-c|-n x|-n ''|-n -1|-n +1|-c +0|-c 1x|-n x1|-5|-n 1 -c|-nn|-n --|-n -- a|-n -|-n 1,2|-x|-n 1 -q|-n x -n 1|-n 1 -n x|-n 0x1|-n ١|-n1 -c1k|-n- a",
		"tail": "-n|-c|-n x|-n ''|-n -1|-n ++1|-n +|-n +x|-c 1+|-n +-1|-5|-r|-n -|-f|-n 1 -n +",
		"wc":   "-m|-lx|-L|-l5|--l|-lwcx",
		"uniq": "-f|-s|-w|-f x|-s -1|-w +1|-w ''|-x|-cx|-D|-f 1x|a b c|- - -|-c a b c|-f 1 -s",
		"comm": "''|a|a b c|- -|-4 a b|-12|-12 a|-0 a b|-x a b|-123 - -|-- - -|-1",
		"join": "''|a|a b c|- -|-1 0 a b|-1 00 a b|-1 x a b|-1 '' a b|-2 0 a b|-2 -1 a b|-t xy a b|-t '' a b|-t a|-a 0 a b|-a 3 a b|-a 01 a b|-a 12 a b|-a '' a b|-v 0 a b|-v 12 a b|-v + a b|-a|-v|-1|-3 1 a b|-i a b|-t é a b|-1 1 -2",
		"cut":  "''|a|-b 0|-b ''|-b ,|-b 1,|-b ,1|-b 1,,2|-b -|-b 2-1|-b 1-2-3|-b --1|-b 1--|-b 1--2|-b a|-b +1|-b 1.|-c 0-1|-c 0-|-f -0|-f 00|-b 1 -c 1|-c 1 -b 1|-b 1 -f 1|-f 1 -c 1|-b 1 -c 1 -f 1|-b 1 -d x|-c 1 -d x|-b 1 -s|-s -c 1|-f 1 -d xy|-f 1 -d ''|-d x|-s|-f|-f 1 -d|-f 1 -x|-f 1 -d é|-b 1;2|-b 1:2|-f 1 -f 0|-f 0 -f 1|-f 99999999999-2147483646|-b 1,0|-b 1,-",
		"tee":  "-x|-ax|-i|-A|-a5 a",
	} {
		for _, words := range strings.Split(l, "|") {
			w.words(name + " " + words).wrong(t)
		}
	}
	for _, argv := range [][]string{{"cut", "-b", "1 "}, {"cut", "-b", " 1"}, {"cut", "-b", "1\n"}, {"head", "-n", " 1"}, {"head", "-n", "1\x00"}, {"cut", "-f", "1", "-d", "\x00\x00"}, {"cut", "-f", "1\t2"}, {"comm"}, {"join"}, {"cut"}} {
		w.argv = argv
		w.wrong(t)
	}
}

// P14.2: the message may be refused; nothing more is made then either.
func TestUsageRefused(t *testing.T) {
	w := world{}.words("cat -x")
	w.errsRoom = 1
	r := w.run(t, api.FsConfig{})
	want(t, "status", r.status, 2)
	want(t, "why", r.why, api.OK)
	want(t, "diagnostics", r.errs, "")
	w.errsRoom = 6
	want(t, "as much as there is room for", w.run(t, api.FsConfig{}).errs, "cat: ")
	r = w.run(t, fault(api.OpWrite, 1))
	want(t, "status", r.status, 2)
	want(t, "calls", r.stats.Calls, 1)
	r = w.run(t, api.FsConfig{Power: 1})
	want(t, "status", r.status, 0)
	want(t, "why", r.why, api.ErrPower)
	// Neither an operand nor a line is asked for: the interrupt isn't looked for.
	s := w.system(t, api.FsConfig{})
	s.Interrupt()
	r = w.on(s)
	want(t, "status", r.status, 2)
	want(t, "why", r.why, api.OK)
}

// The words of the chapter: what is an option, what its value, what an operand.
func TestWords(t *testing.T) {
	w := world{stdin: "a\n\n\nb\n", files: files{"-n": "x\n", "--": "y\n", "f": "z\n", "5": "five\n"}}
	for words, out := range map[string]string{
		"cat -ns":                            "     1\ta\n     2\t\n     3\tb\n",
		"cat -n -s":                          "     1\ta\n     2\t\n     3\tb\n",
		"cat -sn":                            "     1\ta\n     2\t\n     3\tb\n",
		"cat -nns -s":                        "     1\ta\n     2\t\n     3\tb\n",
		"cat -- -n":                          "x\n",
		"cat -n -- -n":                       "     1\tx\n",
		"cat f -n":                           "z\nx\n",
		"cat - -n":                           "a\n\n\nb\nx\n",
		"cat f --":                           "z\ny\n",
		"cat -- --":                          "y\n",
		"cat -- -- f":                        "y\nz\n",
		"cat -- - f":                         "a\n\n\nb\nz\n",
		"cat 5 f":                            "five\nz\n",
		"head -n1":                           "a\n",
		"head -n 1":                          "a\n",
		"head -n 0001":                       "a\n",
		"head -n 4 -n 1":                     "a\n",
		"head -n 1 -n 4":                     "a\n\n\nb\n",
		"head -n 1 -c 3":                     "a\n\n",
		"head -c 3 -n 1":                     "a\n",
		"head -c3 -n1 -c1":                   "a",
		"head -n 2147483647":                 "a\n\n\nb\n",
		"head -n 2147483648":                 "a\n\n\nb\n",
		"head -n 99999999999999999999999999": "a\n\n\nb\n",
		"head -c 99999999999999999999999999": "a\n\n\nb\n",
		"tail -n1":                           "b\n",
		"tail -n+4":                          "b\n",
		"tail -n 1 -n +4":                    "b\n",
		"tail -n +4 -n 1":                    "b\n",
		"tail -n +1 -c 2":                    "b\n",
		"tail -n +99999999999999999999999":   "",
		"tail -c +2147483648":                "",
		"tail -c 99999999999999999999999":    "a\n\n\nb\n",
		"wc -lwc":                            "4 2 6\n",
		"wc -c -l":                           "4 6\n",
		"wc -ll":                             "4\n",
		"uniq -cf1":                          "      4 a\n",
		"uniq -c -f 1":                       "      4 a\n",
		"uniq -f 1 -f 0":                     "a\n\nb\n",
		"uniq -w 0":                          "a\n",
		"uniq -s 99999999999999999999":       "a\n",
		"uniq -w 99999999999999999999":       "a\n\nb\n",
		"cut -b 1":                           "a\n\n\nb\n",
		"cut -b1":                            "a\n\n\nb\n",
		"cut -c 2 -c 1":                      "a\n\n\nb\n",
		"cut -d b -f 2":                      "a\n\n\n\n",
		"cut -db -f2":                        "a\n\n\n\n",
		"cut -f 1 -f 2 -d a -d b":            "a\n\n\n\n",
		"cut -sf2 -d b":                      "\n",
		"cut -d - -f -2":                     "a\n\n\nb\n",
		"tee":                                "a\n\n\nb\n",
		"tee -a":                             "a\n\n\nb\n",
		"tee -aa --":                         "a\n\n\nb\n",
		"echo -- -n":                         "-- -n\n",
		"join -t - -1 1 -2 1 - f":            "",
		"join -a 1 -a1 - f":                  "a\n\n\nb\n",
		"comm -123 - f":                      "",
		"comm -1 -2 -3 -- - f":               "",
	} {
		w.words(words).ends(t, 0, out, "")
	}
}

// A number of fields that no line has costs nothing.
func TestManyFields(t *testing.T) {
	world{stdin: strings.Repeat("a\n", 5000)}.words("uniq -f 99999999999").ends(t, 0, "a\n", "")
}

// P14.7: tools that aren't known.
func TestPlainUnknown(t *testing.T) {
	for _, argv := range [][]string{nil, {}, {""}, {"sort"}, {"sort", "a"}, {"cats"}} {
		out, errs, status := tools.Plain(argv, []byte("a\n"), []api.NamedFile{{Name: "a", Data: []byte("b\n")}})
		want(t, fmt.Sprintf("%q: status", argv), status, 127)
		want(t, fmt.Sprintf("%q: put out", argv), string(out), "")
		want(t, fmt.Sprintf("%q: diagnostics", argv), string(errs), "")
	}
}

// P14.7: files that can't be are left out; one that comes again takes the place of the one ahead of it.
func TestPlainFiles(t *testing.T) {
	file := func(name, data string) api.NamedFile { return api.NamedFile{Name: name, Data: []byte(data)} }
	long := strings.Repeat("n", api.MaxName)
	l := []api.NamedFile{file("a", "1\n"), file("", "2\n"), file("b\x00", "3\n"), file(long, "4\n"), file(long+"n", "5\n"), file("a", "6\n"), file("-", "7\n")}
	out, errs, status := tools.Plain([]string{"cat", "a", "", "b\x00", long, long + "n", "-"}, []byte("in\n"), l)
	want(t, "put out", string(out), "6\n4\nin\n")
	want(t, "diagnostics", string(errs), "cat: : errno 10\ncat: b\x00: errno 10\ncat: "+long+"n: errno 10\n")
	want(t, "status", status, 1)
	// One file too many, and then one that takes the place of another.
	var many []api.NamedFile
	for i := range api.MaxFiles + 1 {
		many = append(many, file(fmt.Sprint(i), fmt.Sprintln(i)))
	}
	many = append(many, file("7", "seven\n"))
	out, errs, status = tools.Plain([]string{"cat", "1023", "1024", "7"}, nil, many)
	want(t, "put out", string(out), "1023\nseven\n")
	want(t, "diagnostics", string(errs), "cat: 1024: errno 12\n")
	want(t, "status", status, 1)
	// As many bytes as may be, and one more.
	all := api.NamedFile{Name: "all", Data: make([]byte, api.MaxCapacity)}
	out, errs, status = tools.Plain([]string{"wc", "-c", "a", "b", "c"}, nil, []api.NamedFile{file("a", "12"), all, file("b", "34"), all, file("c", "")})
	want(t, "put out", string(out), "2 a\n2 b\n0 c\n4 total\n")
	want(t, "diagnostics", string(errs), "")
	want(t, "status", status, 0)
}

// P14.7: as many handles as may be, and what goes out and the diagnostics take MaxOut bytes.
func TestPlainRoom(t *testing.T) {
	argv := []string{"tee"}
	for i := range api.MaxHandles + 1 {
		argv = append(argv, fmt.Sprint("f", i))
	}
	out, errs, status := tools.Plain(argv, []byte("x\n"), nil)
	want(t, "put out", string(out), "x\n")
	want(t, "diagnostics", string(errs), "tee: f256: errno 15\n")
	want(t, "status", status, 1)
	data := []byte(strings.Repeat("123456\n", api.MaxOut/7) + "1234")
	want(t, "bytes", len(data), api.MaxOut)
	out, errs, status = tools.Plain([]string{"cat"}, data, nil)
	want(t, "as much as there is room for", string(out) == string(data), true)
	want(t, "diagnostics", string(errs), "")
	want(t, "status", status, 0)
	out, errs, status = tools.Plain([]string{"cat"}, append(data, '5'), nil)
	want(t, "one byte more", string(out) == string(data), true)
	want(t, "diagnostics", string(errs), "cat: output: errno 18\n")
	want(t, "status", status, 1)
	missing := strings.Repeat("m", 1<<16)
	argv = []string{"cat"}
	for range 17 {
		argv = append(argv, missing)
	}
	_, errs, status = tools.Plain(argv, nil, nil)
	want(t, "diagnostics", len(errs), api.MaxOut)
	want(t, "status", status, 1)
}
