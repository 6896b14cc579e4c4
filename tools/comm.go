package tools

import "strings"

// front is a source with the line that stands first in it.
type front struct {
	*source
	line  string
	there bool
}

// ask asks for the line that stands first from now on. It tells whether the tool goes on: it ends where a Read is refused.
func (f *front) ask() bool {
	f.line, f.there = f.next()
	if f.refused {
		f.close()
	}
	return !f.refused
}

// fronts opens the two operands of comm and join; it tells whether both can be opened.
func (j *job) fronts(operands []string) (a, b front, ok bool) {
	if len(operands) != 2 || operands[0] == stdin && operands[1] == stdin {
		j.usage()
	}
	a.source = j.source(operands[0])
	if a.source == nil {
		return
	}
	b.source = j.source(operands[1])
	return a, b, b.source != nil
}

// compare tells which of two fronts goes first: by their keys, and one that has a line ahead of one that has none.
func compare(a, b front, keyA, keyB string) int {
	switch {
	case !b.there:
		return -1
	case !a.there:
		return 1
	}
	return strings.Compare(keyA, keyB)
}

func comm(j *job, words []string) {
	var without [3]bool
	operands := j.operands(words, options{'1': flag(&without[0]), '2': flag(&without[1]), '3': flag(&without[2])})
	a, b, ok := j.fronts(operands)
	if !ok || !a.ask() || !b.ask() {
		return
	}
	for a.there || b.there {
		c := compare(a, b, a.line, b.line)
		switch {
		case c < 0:
			j.put(inColumn(0, without, a.line))
		case c > 0:
			j.put(inColumn(1, without, b.line))
		default:
			j.put(inColumn(2, without, a.line))
		}
		if c <= 0 && !a.ask() || c >= 0 && !b.ask() {
			return
		}
	}
}

// inColumn gives a line as it stands in one of comm's columns; nothing, if that is left out.
func inColumn(column int, without [3]bool, line string) string {
	if without[column] {
		return ""
	}
	tabs := ""
	for _, out := range without[:column] {
		if !out {
			tabs += "\t"
		}
	}
	return tabs + line + "\n"
}
