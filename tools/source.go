package tools

import (
	"mill/api"
	"mill/lineio"
	"mill/simfs"
)

// stdin is the operand that names what comes in.
const stdin = "-"

// source is an operand that is read.
type source struct {
	job     *job
	operand string
	file    *simfs.File // nil, if there is nothing to close
	reader  *lineio.Reader
	refused bool // it has ended by a refusal
}

// source gives an operand to be read; nil, if it can't be opened.
func (j *job) source(operand string) *source {
	s := &source{job: j, operand: operand}
	from := j.in
	if operand == stdin {
		j.look()
	} else {
		s.file = j.open(operand, api.ModeRead)
		from = s.file
	}
	if from == nil {
		return nil
	}
	s.reader, _ = lineio.NewReader(from, bufSize, '\n')
	return s
}

// each does something with each operand that can be opened; without operands, with what comes in.
func (j *job) each(operands []string, do func(s *source)) {
	if len(operands) == 0 {
		operands = []string{stdin}
	}
	for _, operand := range operands {
		if s := j.source(operand); s != nil {
			do(s)
			s.close()
		}
	}
}

// next asks for the next line, if there is one.
func (s *source) next() (string, bool) {
	s.job.look()
	line, ok, e := s.reader.Next()
	s.refused = s.job.refused(s.operand, e)
	return line, ok
}

// newline gives what stands behind the line that was given last: nothing, if that is bare.
func (s *source) newline() string {
	if s.reader.Whole() {
		return "\n"
	}
	return ""
}

// text asks for the next line, with its newline if it has one.
func (s *source) text() (string, bool) {
	line, ok := s.next()
	if !ok {
		return "", false
	}
	return line + s.newline(), true
}

func (s *source) close() {
	if s.file != nil {
		s.job.close(s.file)
	}
}
