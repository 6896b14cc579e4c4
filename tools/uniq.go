package tools

import (
	"math"
	"strings"

	"mill/api"
)

// blanks part fields.
const blanks = " \t"

// groupWidth is the width of uniq's sizes of groups.
const groupWidth = 7

// likeness is what uniq compares of a line.
type likeness struct {
	fields int // so many are left out, and then
	skip   int // so many bytes
	width  int // of what is left at most so many bytes count
	fold   bool
}

// group is neighbouring lines that are alike.
type group struct {
	first string
	key   string
	size  int
}

// report is which groups uniq puts out, and how.
type report struct {
	sized   bool
	several bool // only those of two and more
	single  bool // only those of one
}

func uniq(j *job, words []string) {
	l := likeness{width: math.MaxInt}
	var r report
	operands := j.operands(words, options{
		'c': flag(&r.sized), 'd': flag(&r.several), 'u': flag(&r.single),
		'i': flag(&l.fold), 'f': number(&l.fields), 's': number(&l.skip), 'w': number(&l.width),
	})
	if len(operands) > 2 {
		j.usage()
	}
	operand := stdin
	if len(operands) > 0 {
		operand = operands[0]
	}
	s := j.source(operand)
	if s == nil || len(operands) > 1 && !j.redirect(operands[1]) {
		return
	}
	var g group
	for line, ok := s.next(); ok; line, ok = s.next() {
		if key := l.of(line); g.size == 0 || key != g.key {
			j.put(r.of(g))
			g = group{first: line, key: key}
		}
		g.size++
	}
	j.put(r.of(g))
}

// redirect has what goes out go to a file; it tells whether that can be opened.
func (j *job) redirect(operand string) bool {
	f := j.open(operand, api.ModeTrunc)
	if f == nil {
		return false
	}
	j.out = writerTo(f)
	return true
}

// of gives what goes out for a group; of an empty one nothing.
func (r report) of(g group) string {
	switch {
	case g.size == 0, r.several && g.size == 1, r.single && g.size > 1:
		return ""
	case r.sized:
		return right(g.size, groupWidth) + " " + g.first + "\n"
	}
	return g.first + "\n"
}

// of gives the part of a line that is compared.
func (l likeness) of(line string) string {
	for n := l.fields; n > 0 && line != ""; n-- {
		line = behindField(line)
	}
	line = line[min(l.skip, len(line)):]
	line = line[:min(l.width, len(line))]
	if l.fold {
		line = lower(line)
	}
	return line
}

// behindField gives what stands behind a line's first field.
func behindField(line string) string {
	line = strings.TrimLeft(line, blanks)
	n := strings.IndexAny(line, blanks)
	if n < 0 {
		return ""
	}
	return line[n:]
}

// lower turns large letters to small ones: those of ASCII alone, as lines are bytes.
func lower(s string) string {
	b := []byte(s)
	for i, c := range b {
		if c >= 'A' && c <= 'Z' {
			b[i] = c + 'a' - 'A'
		}
	}
	return string(b)
}
