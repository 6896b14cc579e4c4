package tools

import "strings"

// amount is how much of a file head and tail put out: so many lines or bytes.
type amount struct {
	number int
	bytes  bool
	from   bool // of tail: not the last ones, but all from this number on
}

// defaultLines is how many lines head and tail put out where no number is given.
const defaultLines = 10

func head(j *job, words []string) {
	a := amount{number: defaultLines}
	files := j.operands(words, a.options(false))
	j.eachTitled(files, func(s *source) {
		for left := a.number; left > 0; {
			text, ok := s.text()
			if !ok {
				return
			}
			first, _, taken := a.split(text, left)
			j.put(first)
			left -= taken
		}
	})
}

func tail(j *job, words []string) {
	a := amount{number: defaultLines}
	files := j.operands(words, a.options(true))
	keep := a.last
	if a.from {
		keep = a.behind
	}
	j.eachTitled(files, func(s *source) {
		kept := keep(s)
		if s.refused {
			return
		}
		for _, text := range kept {
			j.put(text)
		}
	})
}

// options are the letters of head and tail; plus: their numbers may have a + ahead of them.
func (a *amount) options(plus bool) options {
	take := func(bytes bool) option {
		return option{wants: true, set: func(value string) bool {
			digits, from := strings.CutPrefix(value, "+")
			n, ok := readNumber(digits)
			*a = amount{n, bytes, from}
			return ok && (plus || !from)
		}}
	}
	return options{'n': take(false), 'c': take(true)}
}

// eachTitled does something with each operand, as each does, behind a head line where there are several.
func (j *job) eachTitled(operands []string, do func(s *source)) {
	gap := ""
	j.each(operands, func(s *source) {
		if len(operands) > 1 {
			j.put(gap + "==> " + s.operand + " <==\n")
			gap = "\n"
		}
		do(s)
	})
}

// split takes up to n lines or bytes off a text of one line, and tells how many there were.
func (a amount) split(text string, n int) (first, rest string, taken int) {
	switch {
	case a.bytes:
		n = min(n, len(text))
		return text[:n], text[n:], n
	case n == 0:
		return "", text, 0
	}
	return text, "", 1
}

// size tells how many lines or bytes a text of one line has.
func (a amount) size(text string) int {
	if a.bytes {
		return len(text)
	}
	return 1
}

// behind reads all of a source, and keeps it from the amount's number on.
func (a amount) behind(s *source) []string {
	var kept []string
	skip := max(a.number-1, 0)
	for text, ok := s.text(); ok; text, ok = s.text() {
		_, rest, taken := a.split(text, skip)
		skip -= taken
		if rest != "" {
			kept = append(kept, rest)
		}
	}
	return kept
}

// last reads all of a source, and keeps the amount's last lines or bytes.
func (a amount) last(s *source) []string {
	var kept []string
	held := 0
	for text, ok := s.text(); ok; text, ok = s.text() {
		kept = append(kept, text)
		held += a.size(text)
		for held > a.number {
			_, rest, taken := a.split(kept[0], held-a.number)
			held -= taken
			if kept[0] = rest; rest == "" {
				kept = kept[1:]
			}
		}
	}
	return kept
}
