package tools

import (
	"slices"
	"strconv"
	"strings"

	"mill/api"
	"mill/lineio"
	"mill/simfs"
)

// countWidth is the width of cat's numbers.
const countWidth = 6

func cat(j *job, words []string) {
	var numbers, squeeze bool
	files := j.operands(words, options{'n': flag(&numbers), 's': flag(&squeeze)})
	count := 0
	j.each(files, func(s *source) {
		empty := false
		for line, ok := s.next(); ok; line, ok = s.next() {
			if squeeze && empty && line == "" {
				continue
			}
			empty = line == ""
			if numbers {
				count++
				j.put(right(count, countWidth) + "\t")
			}
			j.put(line + s.newline())
		}
	})
}

// right gives a number right in some columns, or in as many as it needs.
func right(n, columns int) string {
	digits := strconv.Itoa(n)
	return strings.Repeat(" ", max(columns-len(digits), 0)) + digits
}

func echo(j *job, words []string) {
	newline := "\n"
	if len(words) > 0 && words[0] == "-n" {
		words, newline = words[1:], ""
	}
	j.put(strings.Join(words, " ") + newline)
}

// duplicate is a file to which tee copies.
type duplicate struct {
	job     *job
	operand string
	file    *simfs.File
	writer  *lineio.Writer
}

func tee(j *job, words []string) {
	var extend bool
	files := j.operands(words, options{'a': flag(&extend)})
	mode := api.ModeTrunc
	if extend {
		mode = api.ModeAppend
	}
	var duplicates []*duplicate
	for _, operand := range files {
		if f := j.open(operand, mode); f != nil {
			duplicates = append(duplicates, &duplicate{j, operand, f, writerTo(f)})
		}
	}
	s := j.source(stdin)
	for text, ok := s.text(); ok; text, ok = s.text() {
		j.put(text)
		duplicates = slices.DeleteFunc(duplicates, func(d *duplicate) bool { return d.fails(d.writer.Raw(text)) })
	}
	j.flush()
	for _, d := range duplicates {
		if !d.fails(d.writer.Flush()) {
			j.close(d.file)
		}
	}
}

// fails tells whether a Write of the file was refused; it is closed if it was.
func (d *duplicate) fails(e api.Errno) bool {
	if !d.job.refused(d.operand, e) {
		return false
	}
	d.job.close(d.file)
	return true
}
