package engine

import (
	"strings"

	"mill/api"
)

// check looks for the first line that is out of order.
func (j *job) check() api.Errno {
	last := ""
	return j.eachLine(func(line string) api.Errno {
		j.stats.Resident = min(j.stats.Lines, 2)
		if j.stats.Lines > 1 && j.disorder(last, line) {
			// Options that check have one input.
			j.stats.At, j.stats.Line, j.stats.File = j.stats.Lines, line, strings.Clone(j.o.Files[0])
			return api.ErrDisorder
		}
		last = line
		return api.OK
	})
}

// disorder tells whether a line is out of order behind another.
func (j *job) disorder(last, line string) bool {
	return j.order.Compare(last, line) > 0 || j.o.Unique && j.order.Keys(last, line) >= 0
}
