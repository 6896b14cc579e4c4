package collate

import (
	"strings"

	"mill/api"
)

// noTab stands where no byte separates fields: each begins with its blanks.
const noTab = -1

// Fields gives the fields of a line; tab -1: they begin with their blanks.
func Fields(line string, tab int) []api.Span {
	if tab < noTab || tab > 255 || tab == noTab && line == "" {
		return nil
	}
	var l []api.Span
	from := 0
	for {
		to := fieldEnd(line, tab, from)
		l = append(l, api.Span{From: from, To: to})
		if to == len(line) {
			return l
		}
		from = to + gap(tab)
	}
}

// fieldBegin tells where field number n begins: at the line's end, if the line has fewer.
func fieldBegin(line string, tab, n int) int {
	from := 0
	for range n - 1 {
		to := fieldEnd(line, tab, from)
		if to == len(line) {
			return to
		}
		from = to + gap(tab)
	}
	return from
}

// fieldEnd tells where the field that begins at from ends: at the line's end only, if it is the last one.
func fieldEnd(line string, tab, from int) int {
	if tab != noTab {
		i := strings.IndexByte(line[from:], byte(tab))
		if i < 0 {
			return len(line)
		}
		return from + i
	}
	to := behindBlanks(line, from)
	for to < len(line) && !isBlank(line[to]) {
		to++
	}
	return to
}

// gap is how many bytes lie between a field's end and the beginning of the next one.
func gap(tab int) int {
	if tab == noTab {
		return 0
	}
	return 1
}

// behindBlanks tells where the blanks end that stand at from.
func behindBlanks(line string, from int) int {
	for from < len(line) && isBlank(line[from]) {
		from++
	}
	return from
}
