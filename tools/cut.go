package tools

import (
	"cmp"
	"slices"
	"strings"

	"mill/api"
)

// numbers are those of bytes or fields, from one to another.
type numbers struct {
	from int
	to   int
}

// list is which bytes or fields are cut out: rising, none of them twice. One that is given is not empty.
type list []numbers

// cutter is what cut's options say.
type cutter struct {
	bytes      list
	characters list
	fields     list
	tab        string // "": not given
	only       bool   // a line without a tab does not go out
}

// defaultTab parts cut's fields where nothing else is given.
const defaultTab = "\t"

func cut(j *job, words []string) {
	var c cutter
	files := j.operands(words, options{
		'b': numberList(&c.bytes), 'c': numberList(&c.characters), 'f': numberList(&c.fields),
		'd': oneByte(&c.tab), 's': flag(&c.only),
	})
	if !c.holds() {
		j.usage()
	}
	// They mean the same, and only one of them is given.
	c.bytes = append(c.bytes, c.characters...)
	j.each(files, func(s *source) {
		for line, ok := s.next(); ok; line, ok = s.next() {
			if part, ok := c.of(line); ok {
				j.put(part + "\n")
			}
		}
	})
}

// holds tells whether these options go together.
func (c cutter) holds() bool {
	given := 0
	for _, l := range [...]list{c.bytes, c.characters, c.fields} {
		given += min(len(l), 1)
	}
	return given == 1 && (len(c.fields) > 0 || c.tab == "" && !c.only)
}

// of gives what is cut out of a line; false: nothing goes out, not even an empty line.
func (c cutter) of(line string) (string, bool) {
	if len(c.fields) == 0 {
		return string(pick(c.bytes, []byte(line))), true
	}
	tab := cmp.Or(c.tab, defaultTab)
	if !strings.Contains(line, tab) {
		return line, !c.only
	}
	return strings.Join(pick(c.fields, strings.Split(line, tab)), tab), true
}

// pick gives those of some items whose numbers are in a list.
func pick[T any](l list, items []T) []T {
	var picked []T
	for _, n := range l {
		if n.from > len(items) {
			break
		}
		picked = append(picked, items[n.from-1:min(n.to, len(items))]...)
	}
	return picked
}

// numberList takes a list of numbers.
func numberList(to *list) option {
	return option{wants: true, set: func(value string) bool {
		var l list
		for _, word := range strings.Split(value, ",") {
			n, ok := readNumbers(word)
			if !ok {
				return false
			}
			l = append(l, n)
		}
		*to = joined(l)
		return true
	}}
}

// joined sorts a list, and makes one of those of its numbers that overlap.
func joined(l list) list {
	slices.SortFunc(l, func(a, b numbers) int { return cmp.Compare(a.from, b.from) })
	var m list
	for _, n := range l {
		last := len(m) - 1
		if last >= 0 && n.from <= m[last].to {
			m[last].to = max(m[last].to, n.to)
			continue
		}
		m = append(m, n)
	}
	return m
}

// readNumbers reads N, N-, -N or N-M.
func readNumbers(s string) (numbers, bool) {
	from, to, several := strings.Cut(s, "-")
	// What is no number is 0 here: neither may be.
	n, _ := readNumber(from)
	m, _ := readNumber(to)
	switch {
	case !several:
		m = n
	case from == "":
		n = 1
	case to == "":
		m = api.MaxField
	}
	return numbers{n, m}, 1 <= n && n <= m
}
