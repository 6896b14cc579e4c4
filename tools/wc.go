package tools

import (
	"strconv"
	"strings"
)

// What wc counts.
const (
	newlines = iota
	wordRuns
	bytesOfAll
	kinds
)

// counts are how many there are of each.
type counts [kinds]int

// totalName stands behind the sums.
const totalName = " total"

func wc(j *job, words []string) {
	var asked [kinds]bool
	files := j.operands(words, options{'l': flag(&asked[newlines]), 'w': flag(&asked[wordRuns]), 'c': flag(&asked[bytesOfAll])})
	if asked == [kinds]bool{} {
		asked = [kinds]bool{true, true, true}
	}
	var total counts
	j.each(files, func(s *source) {
		c := countsOf(s)
		for i := range c {
			total[i] += c[i]
		}
		name := ""
		if len(files) > 0 {
			name = " " + s.operand
		}
		j.put(c.told(asked) + name + "\n")
	})
	if len(files) > 1 {
		j.put(total.told(asked) + totalName + "\n")
	}
}

// countsOf reads all of a source.
func countsOf(s *source) counts {
	var c counts
	for line, ok := s.next(); ok; line, ok = s.next() {
		end := len(s.newline())
		c[newlines] += end
		c[wordRuns] += wordsIn(line)
		c[bytesOfAll] += len(line) + end
	}
	return c
}

// wordsIn counts the words of a line. It goes by runes, as each byte that parts words is one, and part of no other.
func wordsIn(line string) int {
	n, within := 0, false
	for _, c := range line {
		parts := c == ' ' || '\t' <= c && c <= '\r'
		if !parts && !within {
			n++
		}
		within = !parts
	}
	return n
}

// told gives those that are asked for.
func (c counts) told(asked [kinds]bool) string {
	var l []string
	for i, n := range c {
		if asked[i] {
			l = append(l, strconv.Itoa(n))
		}
	}
	return strings.Join(l, " ")
}
