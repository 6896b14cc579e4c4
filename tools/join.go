package tools

import "strings"

// joiner is what join's options say of both files.
type joiner struct {
	job    *job
	tab    string // "": blanks part fields
	paired bool   // lines with a partner go out
}

// side is one of join's files, with its first line taken apart.
type side struct {
	front
	joiner *joiner
	field  int  // the number of its key
	alone  bool // its lines without a partner go out
	key    string
	rest   string // the other fields, each with a separator ahead of it
}

func join(j *job, words []string) {
	x := &joiner{job: j, paired: true}
	a, b := &side{joiner: x, field: 1}, &side{joiner: x, field: 1}
	operands := j.operands(words, options{
		'1': fieldNumber(&a.field), '2': fieldNumber(&b.field), 't': oneByte(&x.tab),
		'a': fileNumber(func(s *side) { s.alone = true }, a, b),
		'v': fileNumber(func(s *side) { s.alone, x.paired = true, false }, a, b),
	})
	var ok bool
	a.front, b.front, ok = j.fronts(operands)
	if ok && a.ask() && b.ask() {
		x.join(a, b)
	}
}

// fieldNumber takes the number of a field.
func fieldNumber(to *int) option {
	o := number(to)
	return option{wants: true, set: func(value string) bool { return o.set(value) && *to > 0 }}
}

// fileNumber takes the word 1 or the word 2, and does something with that side.
func fileNumber(do func(s *side), a, b *side) option {
	return option{wants: true, set: func(value string) bool {
		switch value {
		case "1":
			do(a)
		case "2":
			do(b)
		default:
			return false
		}
		return true
	}}
}

// join goes through both files up to their ends, or to a Read that is refused.
func (x *joiner) join(a, b *side) {
	for goesOn := true; goesOn && (a.there || b.there); {
		switch c := compare(a.front, b.front, a.key, b.key); {
		case c < 0:
			goesOn = a.unpaired()
		case c > 0:
			goesOn = b.unpaired()
		default:
			goesOn = x.pair(a, b)
		}
	}
}

// unpaired deals with a first line that has no partner. It tells whether the tool goes on.
func (s *side) unpaired() bool {
	if s.alone {
		s.joiner.job.put(s.key + s.rest + "\n")
	}
	return s.ask()
}

// pair deals with all lines that have the key of the first ones. It tells whether the tool goes on.
func (x *joiner) pair(a, b *side) bool {
	key := a.key
	listA, ok := a.group()
	if !ok {
		return false
	}
	listB, ok := b.group()
	if !ok {
		return false
	}
	if !x.paired {
		return true
	}
	for _, restA := range listA {
		for _, restB := range listB {
			x.job.put(key + restA + restB + "\n")
		}
	}
	return true
}

// group takes all neighbouring lines with the first one's key, and gives what they have beside it. It tells whether the tool goes on.
func (s *side) group() ([]string, bool) {
	var l []string
	for key := s.key; s.there && s.key == key; {
		l = append(l, s.rest)
		if !s.ask() {
			return nil, false
		}
	}
	return l, true
}

// ask asks for the next line, and takes it apart. It tells whether the tool goes on.
func (s *side) ask() bool {
	if !s.front.ask() {
		return false
	}
	s.key, s.rest = s.joiner.split(s.line, s.field)
	return true
}

// split gives a line's key, the field of that number, and the other fields, each with a separator ahead of it.
func (x *joiner) split(line string, number int) (key, rest string) {
	separator := x.tab
	var fields []string
	if x.tab == "" {
		separator = " "
		fields = strings.FieldsFunc(line, isBlank)
	} else {
		fields = strings.Split(line, x.tab)
	}
	var others strings.Builder
	for i, field := range fields {
		if i == number-1 {
			key = field
			continue
		}
		others.WriteString(separator)
		others.WriteString(field)
	}
	return key, others.String()
}

func isBlank(c rune) bool { return c == ' ' || c == '\t' }
