package tools_test

import (
	"bytes"
	"errors"
	"fmt"
	"math/big"
	"regexp"
	"slices"
	"strconv"
	"strings"

	"mill/api"
	"mill/simfs"
)

// machine is a second model of a run, by the chapter's letter: it reads and writes with its own hands, looks at whole texts where it can, and hands up as an error what ends a tool.
type machine struct {
	fs      *simfs.FS
	name    string
	in      *simfs.File
	errs    *simfs.File
	out     pipe
	opened  []*handle
	status  int
	letters []letter
	words   []string // the operands
}

// handle is a file that was opened.
type handle struct {
	file   *simfs.File
	writes bool
	closed bool
}

// pipe is where bytes go in pieces.
type pipe struct {
	file *simfs.File
	rest string
}

// letter is an option that was given.
type letter struct{ name, value string }

// reading is an operand that is read.
type reading struct {
	operand string
	file    *simfs.File
	handle  *handle
	rest    []byte
	ended   bool
}

// over is how a tool ends at once.
type over struct {
	status int
	why    api.Errno
}

func (o over) Error() string { return fmt.Sprint(o.status, o.why) }

// errEnds is how a tool ends ahead of its last operand, but not at once.
var errEnds = errors.New("it ends")

// model runs a tool.
func model(fs *simfs.FS, argv []string, in, out, errs *simfs.File) (int, api.Errno) {
	if fs == nil || in == nil || out == nil || errs == nil {
		return 0, api.ErrNil
	}
	work := map[string]func(m *machine) error{
		"cat": (*machine).cat, "head": (*machine).head, "tail": (*machine).tail, "wc": (*machine).wc, "uniq": (*machine).uniq,
		"comm": (*machine).comm, "join": (*machine).join, "cut": (*machine).cut, "tee": (*machine).tee, "echo": (*machine).echo,
	}
	if len(argv) == 0 || work[argv[0]] == nil {
		return 0, api.ErrTool
	}
	m := &machine{fs: fs, name: argv[0], in: in, errs: errs, out: pipe{file: out}}
	err := m.getopt(argv[1:])
	if err == nil {
		err = work[m.name](m)
	}
	if err == nil || err == errEnds {
		err = m.ending()
	}
	if err == nil {
		return m.status, api.OK
	}
	return m.atOnce(err.(over))
}

// ending is P14.5.
func (m *machine) ending() error {
	for _, h := range m.opened {
		if !h.writes {
			if err := m.close(h); err != nil {
				return err
			}
		}
	}
	if err := m.flush(); err != nil {
		return err
	}
	for _, h := range m.opened {
		if err := m.close(h); err != nil {
			return err
		}
	}
	return nil
}

// atOnce closes what is open.
func (m *machine) atOnce(o over) (int, api.Errno) {
	for _, h := range m.opened {
		if o.why == api.ErrPower {
			break
		}
		if err := m.close(h); err != nil {
			o = err.(over)
		}
	}
	return o.status, o.why
}

func (m *machine) close(h *handle) error {
	if h == nil || h.closed {
		return nil
	}
	h.closed = true
	return power(h.file.Close())
}

func power(e api.Errno) error {
	if e == api.ErrPower {
		return over{0, api.ErrPower}
	}
	return nil
}

func (m *machine) stopped() error {
	if m.fs.Stopped() {
		return over{130, api.ErrStop}
	}
	return nil
}

// say is a message.
func (m *machine) say(format string, args ...any) error {
	_, e := m.errs.Write([]byte(m.name + ": " + fmt.Sprintf(format, args...) + "\n"))
	return power(e)
}

func (m *machine) usage() error {
	if err := m.say("usage"); err != nil {
		return err
	}
	return over{2, api.OK}
}

// fail is what a refusal makes of a tool.
func (m *machine) fail(about string, e api.Errno) error {
	if e == api.ErrPower {
		return over{0, api.ErrPower}
	}
	m.status = 1
	return m.say("%s: errno %d", about, int(e))
}

// push adds bytes to a pipe, and tells how its Writes are answered.
func (p *pipe) push(s string, most int) api.Errno {
	p.rest += s
	for len(p.rest) >= most && p.rest != "" {
		n := min(4096, len(p.rest))
		_, e := p.file.Write([]byte(p.rest[:n]))
		p.rest = p.rest[n:]
		if e != api.OK {
			return e
		}
	}
	return api.OK
}

func (m *machine) put(s string) error { return m.putBy(m.out.push(s, 4096)) }

func (m *machine) flush() error { return m.putBy(m.out.push("", 0)) }

func (m *machine) putBy(e api.Errno) error {
	if e == api.OK {
		return nil
	}
	if err := m.fail("output", e); err != nil {
		return err
	}
	return over{1, api.OK}
}

// open gives a file; none, if it is refused.
func (m *machine) open(operand string, mode api.Mode) (*handle, error) {
	if err := m.stopped(); err != nil {
		return nil, err
	}
	f, e := m.fs.Open(operand, mode)
	if e != api.OK {
		return nil, m.fail(operand, e)
	}
	h := &handle{file: f, writes: mode != api.ModeRead}
	m.opened = append(m.opened, h)
	return h, nil
}

// openToRead gives a reading; none, if it is refused.
func (m *machine) openToRead(operand string) (*reading, error) {
	if operand == "-" {
		return &reading{operand: "-", file: m.in}, m.stopped()
	}
	h, err := m.open(operand, api.ModeRead)
	if h == nil {
		return nil, err
	}
	return &reading{operand: operand, file: h.file, handle: h}, nil
}

// ask gives the next line as it stands, or none; refused tells that there is a message about it.
func (m *machine) ask(r *reading) (text string, refused bool, err error) {
	if err := m.stopped(); err != nil {
		return "", false, err
	}
	for {
		n := bytes.IndexByte(r.rest, '\n') + 1
		switch {
		case n > api.MaxLine+1, n == 0 && len(r.rest) > api.MaxLine:
			return "", true, m.fail(r.operand, api.ErrLong)
		case n == 0 && r.ended:
			n = len(r.rest)
			fallthrough
		case n > 0:
			text, r.rest = string(r.rest[:n]), r.rest[n:]
			return text, false, nil
		}
		b, e := r.file.Read(4096)
		if e != api.OK {
			return "", true, m.fail(r.operand, e)
		}
		r.rest = append(r.rest, b...)
		r.ended = len(b) == 0
	}
}

// each goes through the operands.
func (m *machine) each(do func(r *reading) error) error {
	operands := m.words
	if len(operands) == 0 {
		operands = []string{"-"}
	}
	for _, operand := range operands {
		r, err := m.openToRead(operand)
		if err != nil {
			return err
		}
		if r == nil {
			continue
		}
		if err := do(r); err != nil {
			return err
		}
		if err := m.close(r.handle); err != nil {
			return err
		}
	}
	return nil
}

// rest asks for all lines that are left, and does something with each.
func (m *machine) rest(r *reading, do func(text string) error) (refused bool, err error) {
	for {
		text, refused, err := m.ask(r)
		if refused || err != nil || text == "" {
			return refused, err
		}
		if err := do(text); err != nil {
			return false, err
		}
	}
}

// specs are the tools' options: of each its letter, and what its values are like; nil: it has none.
var specs = map[string]map[string]*regexp.Regexp{
	"cat":  {"n": nil, "s": nil},
	"head": {"n": digits, "c": digits},
	"tail": {"n": plusDigits, "c": plusDigits},
	"wc":   {"l": nil, "w": nil, "c": nil},
	"uniq": {"c": nil, "d": nil, "u": nil, "i": nil, "f": digits, "s": digits, "w": digits},
	"comm": {"1": nil, "2": nil, "3": nil},
	"join": {"1": above0, "2": above0, "t": oneRune, "a": oneOrTwo, "v": oneOrTwo},
	"cut":  {"b": lists, "c": lists, "f": lists, "d": oneRune, "s": nil},
	"tee":  {"a": nil},
}

const ranges = `(?:0*[1-9]\d*-?|-0*[1-9]\d*|0*[1-9]\d*-0*[1-9]\d*)`

var (
	digits     = regexp.MustCompile(`^\d+$`)
	plusDigits = regexp.MustCompile(`^\+?\d+$`)
	above0     = regexp.MustCompile(`^0*[1-9]\d*$`)
	oneRune    = regexp.MustCompile(`(?s)^.$`)
	oneOrTwo   = regexp.MustCompile(`^[12]$`)
	lists      = regexp.MustCompile(`^` + ranges + `(?:,` + ranges + `)*$`)
	nonBlanks  = regexp.MustCompile(`[^ \t]+`)
)

// getopt reads the words: letters, and operands.
func (m *machine) getopt(words []string) error {
	m.words = slices.Clone(words)
	if m.name == "echo" {
		return nil
	}
	takes := map[string][2]int{"uniq": {0, 2}, "comm": {2, 2}, "join": {2, 2}}
	good := m.allLetters()
	if n, some := takes[m.name]; some {
		good = good && n[0] <= len(m.words) && len(m.words) <= n[1]
		good = good && (n[0] < 2 || m.words[0] != "-" || m.words[1] != "-")
	}
	if m.name == "cut" {
		b, c, f := len(m.values("b")) > 0, len(m.values("c")) > 0, len(m.values("f")) > 0
		good = good && (b && !c && !f || c && !b && !f || f && !b && !c)
		good = good && (f || len(m.values("d"))+len(m.values("s")) == 0)
	}
	if !good {
		return m.usage()
	}
	return nil
}

// allLetters reads the options off the words; it tells whether they are as they must be.
func (m *machine) allLetters() bool {
	for len(m.words) > 0 && strings.HasPrefix(m.words[0], "-") && m.words[0] != "-" {
		word := strings.TrimPrefix(m.words[0], "-")
		m.words = m.words[1:]
		if word == "-" {
			return true
		}
		for word != "" {
			l := letter{name: word[:1]}
			word = word[1:]
			like, known := specs[m.name][l.name]
			if !known {
				return false
			}
			if like != nil {
				if word == "" {
					if len(m.words) == 0 {
						return false
					}
					word, m.words = m.words[0], m.words[1:]
				}
				l.value, word = word, ""
				// A byte is made a rune, so that the pattern sees bytes.
				var runes []rune
				for i := range len(l.value) {
					runes = append(runes, rune(l.value[i]))
				}
				if !like.MatchString(string(runes)) {
					return false
				}
			}
			m.letters = append(m.letters, l)
		}
	}
	return true
}

// values gives the values that a letter was given with.
func (m *machine) values(name string) []string {
	var l []string
	for _, x := range m.letters {
		if x.name == name {
			l = append(l, x.value)
		}
	}
	return l
}

func (m *machine) has(name string) bool { return len(m.values(name)) > 0 }

// last gives the value that a letter was given with last.
func (m *machine) last(name, without string) string {
	if l := m.values(name); len(l) > 0 {
		return l[len(l)-1]
	}
	return without
}

// num reads a number.
func num(s string) int {
	n, ok := new(big.Int).SetString(s, 10)
	if !ok {
		panic(s)
	}
	if n.Cmp(big.NewInt(2147483647)) > 0 {
		return 2147483647
	}
	return int(n.Int64())
}

func (m *machine) cat() error {
	number := 0
	return m.each(func(r *reading) error {
		before := ""
		_, err := m.rest(r, func(text string) error {
			if m.has("s") && text == "\n" && before == "\n" {
				return nil
			}
			before = text
			number++
			if m.has("n") {
				text = fmt.Sprintf("%6d\t%s", number, text)
			}
			return m.put(text)
		})
		return err
	})
}

func (m *machine) echo() error {
	if len(m.words) > 0 && m.words[0] == "-n" {
		return m.put(strings.Join(m.words[1:], " "))
	}
	return m.put(strings.Join(m.words, " ") + "\n")
}

// amount gives the option that says how much head and tail give.
func (m *machine) amount() (bytes bool, plus bool, n int) {
	value := "10"
	for _, l := range m.letters {
		bytes, value = l.name == "c", l.value
	}
	value, plus = strings.CutPrefix(value, "+")
	return bytes, plus, num(value)
}

// titled puts out the head lines.
func (m *machine) titled(do func(r *reading) error) error {
	some := false
	return m.each(func(r *reading) error {
		if len(m.words) > 1 {
			title := fmt.Sprintf("==> %s <==\n", r.operand)
			if some {
				title = "\n" + title
			}
			some = true
			if err := m.put(title); err != nil {
				return err
			}
		}
		return do(r)
	})
}

func (m *machine) head() error {
	bytes, _, n := m.amount()
	return m.titled(func(r *reading) error {
		for given := 0; given < n; {
			text, refused, err := m.ask(r)
			if refused || err != nil || text == "" {
				return err
			}
			if bytes {
				text = text[:min(len(text), n-given)]
				given += len(text)
			} else {
				given++
			}
			if err := m.put(text); err != nil {
				return err
			}
		}
		return nil
	})
}

func (m *machine) tail() error {
	bytes, plus, n := m.amount()
	return m.titled(func(r *reading) error {
		var parts []string
		refused, err := m.rest(r, func(text string) error {
			parts = append(parts, text)
			return nil
		})
		if refused || err != nil {
			return err
		}
		if bytes {
			parts = strings.Split(strings.Join(parts, ""), "")
			if whole := strings.Join(parts, ""); len(parts) != len(whole) {
				parts = nil
				for i := range len(whole) {
					parts = append(parts, whole[i:i+1])
				}
			}
		}
		from := max(len(parts)-n, 0)
		if plus {
			from = min(max(n-1, 0), len(parts))
		}
		return m.put(strings.Join(parts[from:], ""))
	})
}

// wordsOfWC finds words.
var wordsOfWC = regexp.MustCompile("[^\t\n\v\f\r ]+")

func (m *machine) wc() error {
	told := func(n [3]int, name string) string {
		var l []string
		for i, option := range []string{"l", "w", "c"} {
			if len(m.letters) == 0 || m.has(option) {
				l = append(l, strconv.Itoa(n[i]))
			}
		}
		if len(m.words) > 0 {
			l = append(l, name)
		}
		return strings.Join(l, " ") + "\n"
	}
	var sums [3]int
	err := m.each(func(r *reading) error {
		whole := ""
		if _, err := m.rest(r, func(text string) error { whole += text; return nil }); err != nil {
			return err
		}
		counts := count(whole)
		for i, n := range counts {
			sums[i] += n
		}
		return m.put(told(counts, r.operand))
	})
	if err != nil || len(m.words) < 2 {
		return err
	}
	return m.put(told(sums, "total"))
}

func count(s string) [3]int {
	return [3]int{strings.Count(s, "\n"), len(wordsOfWC.FindAllString(s, -1)), len(s)}
}

// oneField is a field of uniq's at a line's head.
var oneField = regexp.MustCompile(`^[ \t]*[^ \t]*`)

// large is a large letter.
var large = regexp.MustCompile(`[A-Z]`)

// compared gives what uniq compares of a line.
func (m *machine) compared(line string) string {
	line = strings.TrimSuffix(line, "\n")
	for range min(num(m.last("f", "0")), len(line)) {
		line = line[len(oneField.FindString(line)):]
	}
	line = line[min(num(m.last("s", "0")), len(line)):]
	line = line[:min(num(m.last("w", "2147483647")), len(line))]
	if m.has("i") {
		line = large.ReplaceAllStringFunc(line, func(c string) string { return string(rune(c[0] + 32)) })
	}
	return line
}

func (m *machine) uniq() error {
	r, err := m.openToRead(append(m.words, "-")[0])
	if err != nil || r == nil {
		return err
	}
	if len(m.words) == 2 {
		h, err := m.open(m.words[1], api.ModeTrunc)
		if err != nil || h == nil {
			return err
		}
		m.out = pipe{file: h.file}
	}
	var gathered []string
	whole := func() error {
		l := gathered
		gathered = nil
		if len(l) == 0 || m.has("d") && len(l) < 2 || m.has("u") && len(l) > 1 {
			return nil
		}
		text := strings.TrimSuffix(l[0], "\n") + "\n"
		if m.has("c") {
			text = fmt.Sprintf("%7d %s", len(l), text)
		}
		return m.put(text)
	}
	_, err = m.rest(r, func(text string) error {
		if len(gathered) > 0 && m.compared(gathered[len(gathered)-1]) != m.compared(text) {
			if err := whole(); err != nil {
				return err
			}
		}
		gathered = append(gathered, text)
		return nil
	})
	if err != nil {
		return err
	}
	return whole()
}

// two opens comm's and join's files.
func (m *machine) two() ([2]*reading, error) {
	var two [2]*reading
	for i := range two {
		r, err := m.openToRead(m.words[i])
		if err != nil {
			return two, err
		}
		if r == nil {
			return two, errEnds
		}
		two[i] = r
	}
	return two, nil
}

// front asks for a line of one of two files; a refusal ends the tool. The line comes with a newline; "": there is none.
func (m *machine) front(r *reading) (string, error) {
	text, refused, err := m.ask(r)
	if refused && err == nil {
		if err = m.close(r.handle); err == nil {
			err = errEnds
		}
	}
	if text != "" {
		text = strings.TrimSuffix(text, "\n") + "\n"
	}
	return text, err
}

func (m *machine) comm() error {
	two, err := m.two()
	if err != nil {
		return err
	}
	var fronts [2]string
	wanted := [2]bool{true, true}
	for {
		for i := range two {
			if wanted[i] {
				if fronts[i], err = m.front(two[i]); err != nil {
					return err
				}
			}
		}
		if fronts == [2]string{} {
			return nil
		}
		column := 3
		switch a, b := strings.TrimSuffix(fronts[0], "\n"), strings.TrimSuffix(fronts[1], "\n"); {
		case fronts[1] == "" || fronts[0] != "" && a < b:
			column = 1
		case fronts[0] == "" || b < a:
			column = 2
		}
		wanted = [2]bool{column != 2, column != 1}
		if m.has(strconv.Itoa(column)) {
			continue
		}
		text := fronts[(column-1)%2]
		for ahead := 1; ahead < column; ahead++ {
			if !m.has(strconv.Itoa(ahead)) {
				text = "\t" + text
			}
		}
		if err := m.put(text); err != nil {
			return err
		}
	}
}

// fieldsOf are join's fields.
func (m *machine) fieldsOf(line string) []string {
	line = strings.TrimSuffix(line, "\n")
	if m.has("t") {
		return strings.Split(line, m.last("t", ""))
	}
	return nonBlanks.FindAllString(line, -1)
}

// keyed gives the key and the other fields.
func (m *machine) keyed(line string, side int) (string, []string) {
	f := m.fieldsOf(line)
	n := num(m.last(strconv.Itoa(side+1), "1"))
	if n > len(f) {
		return "", f
	}
	return f[n-1], append(slices.Clone(f[:n-1]), f[n:]...)
}

func (m *machine) join() error {
	two, err := m.two()
	if err != nil {
		return err
	}
	separator := m.last("t", " ")
	var fronts [2]string
	for i := range two {
		if fronts[i], err = m.front(two[i]); err != nil {
			return err
		}
	}
	for fronts != [2]string{} {
		var keys [2]string
		for i, line := range fronts {
			keys[i], _ = m.keyed(line, i)
		}
		lone := -1
		switch {
		case fronts[1] == "" || fronts[0] != "" && keys[0] < keys[1]:
			lone = 0
		case fronts[0] == "" || keys[0] > keys[1]:
			lone = 1
		}
		if lone >= 0 {
			_, others := m.keyed(fronts[lone], lone)
			number := strconv.Itoa(lone + 1)
			if slices.Contains(m.values("a"), number) || slices.Contains(m.values("v"), number) {
				if err := m.put(strings.Join(append([]string{keys[lone]}, others...), separator) + "\n"); err != nil {
					return err
				}
			}
			if fronts[lone], err = m.front(two[lone]); err != nil {
				return err
			}
			continue
		}
		var groups [2][]string
		for i := range two {
			for key := keys[i]; fronts[i] != "" && key == keys[i]; key, _ = m.keyed(fronts[i], i) {
				groups[i] = append(groups[i], fronts[i])
				if fronts[i], err = m.front(two[i]); err != nil {
					return err
				}
			}
		}
		if m.has("v") {
			continue
		}
		for _, a := range groups[0] {
			for _, b := range groups[1] {
				_, others := m.keyed(a, 0)
				_, more := m.keyed(b, 1)
				if err := m.put(strings.Join(append(append([]string{keys[0]}, others...), more...), separator) + "\n"); err != nil {
					return err
				}
			}
		}
	}
	return nil
}

// listed tells whether a number is in a list.
func listed(list string, n int) bool {
	for _, part := range strings.Split(list, ",") {
		low, high, ranged := strings.Cut(part, "-")
		if !ranged {
			high = low
		}
		if (low == "" || num(low) <= n) && (high == "" || n <= num(high)) {
			return true
		}
	}
	return false
}

// listsHold tells whether each part of the lists that were given goes upwards.
func (m *machine) listsHold() bool {
	for _, l := range m.letters {
		for _, part := range strings.Split(l.value, ",") {
			low, high, _ := strings.Cut(part, "-")
			if strings.Contains("bcf", l.name) && low != "" && high != "" && num(low) > num(high) {
				return false
			}
		}
	}
	return true
}

func (m *machine) cut() error {
	if !m.listsHold() {
		return m.usage()
	}
	return m.each(func(r *reading) error {
		_, err := m.rest(r, func(text string) error {
			line := strings.TrimSuffix(text, "\n")
			if !m.has("f") {
				var b []byte
				for i := range len(line) {
					if listed(m.last("b", m.last("c", "")), i+1) {
						b = append(b, line[i])
					}
				}
				return m.put(string(b) + "\n")
			}
			tab := m.last("d", "\t")
			fields := strings.Split(line, tab)
			if len(fields) == 1 {
				if m.has("s") {
					return nil
				}
				return m.put(line + "\n")
			}
			var l []string
			for i, field := range fields {
				if listed(m.last("f", ""), i+1) {
					l = append(l, field)
				}
			}
			return m.put(strings.Join(l, tab) + "\n")
		})
		return err
	})
}

func (m *machine) tee() error {
	type target struct {
		pipe
		operand string
		handle  *handle
	}
	mode := map[bool]api.Mode{false: api.ModeTrunc, true: api.ModeAppend}[m.has("a")]
	var targets []*target
	for _, operand := range m.words {
		h, err := m.open(operand, mode)
		if err != nil {
			return err
		}
		if h != nil {
			targets = append(targets, &target{pipe{file: h.file}, operand, h})
		}
	}
	// pass tells of a Write of a file.
	pass := func(x *target, e api.Errno) error {
		if e == api.OK {
			return nil
		}
		if err := m.fail(x.operand, e); err != nil {
			return err
		}
		return m.close(x.handle)
	}
	_, err := m.rest(&reading{operand: "-", file: m.in}, func(text string) error {
		if err := m.put(text); err != nil {
			return err
		}
		for _, x := range targets {
			if !x.handle.closed {
				if err := pass(x, x.push(text, 4096)); err != nil {
					return err
				}
			}
		}
		return nil
	})
	if err == nil {
		err = m.flush()
	}
	for _, x := range targets {
		if err == nil && !x.handle.closed {
			if err = pass(x, x.push("", 0)); err == nil {
				err = m.close(x.handle)
			}
		}
	}
	return err
}
