package temps

import (
	"mill/api"
	"mill/squeeze"
)

// The bounds of an entry's numbers.
const (
	mostNumber = 1<<31 - 1         // of entries
	mostRun    = 2*api.MaxRuns - 1 // of runs
	mostCount  = 1 << 40           // of records and of lines
)

// The bytes of an entry.
const (
	mark      = 0xE5
	numberAt  = 1
	lengthAt  = 5 // where it says how long its body is
	headSumAt = 7
	headSize  = 11
	sumSize   = 4
)

// fields is a set of an entry's fields.
type fields uint8

const (
	hasPrint fields = 1 << iota
	hasName
	hasRun
	hasRecords
	hasLines
	hasSum
	hasIn
)

// uses tells by kind which fields an entry has.
var uses = [...]fields{
	api.EntryJob:    hasPrint,
	api.EntryMake:   hasName,
	api.EntryRun:    hasName | hasRun | hasRecords | hasLines | hasSum,
	api.EntryAll:    0,
	api.EntryMerge:  hasName | hasRun | hasRecords | hasSum | hasIn,
	api.EntryOutput: 0,
}

// has tells whether these fields are in the set.
func (s fields) has(f fields) bool { return s&f == f }

// Encode gives the bytes of the entry number n.
func Encode(n int, e api.Entry) ([]byte, api.Errno) {
	if n < 0 || n > mostNumber {
		return nil, api.ErrArg
	}
	if !mayBe(e) {
		return nil, api.ErrJournal
	}
	body := bodyOf(e)
	b := headOf(n, len(body))
	b = append(b, body...)
	return lay(b, uint64(squeeze.Sum(body)), sumSize), api.OK
}

// Decode gives the entries of bytes, how many bytes they take, and why it ended.
func Decode(b []byte) ([]api.Entry, int, api.Errno) {
	var l []api.Entry
	taken := 0
	for {
		x, size, e := firstEntry(b[taken:], len(l))
		if size == 0 {
			return l, taken, e
		}
		l = append(l, x)
		taken += size
	}
}

// firstEntry gives the entry of this number with which bytes begin, and how many it takes; none if it is not there.
func firstEntry(b []byte, n int) (api.Entry, int, api.Errno) {
	switch {
	case len(b) == 0:
		return api.Entry{}, 0, api.OK
	case b[0] != mark:
		return api.Entry{}, 0, api.ErrJournal
	case len(b) < headSize:
		return api.Entry{}, 0, api.ErrTorn
	case number(b[headSumAt:headSize]) != uint64(squeeze.Sum(b[:headSumAt])) || number(b[numberAt:lengthAt]) != uint64(n):
		return api.Entry{}, 0, api.ErrJournal
	}
	end := headSize + int(number(b[lengthAt:headSumAt]))
	if len(b) < end+sumSize {
		return api.Entry{}, 0, api.ErrTorn
	}
	body := b[headSize:end]
	x, ok := entryOf(body)
	isJob := x.Kind == api.EntryJob
	if number(b[end:end+sumSize]) != uint64(squeeze.Sum(body)) || !ok || isJob != (n == 0) {
		return api.Entry{}, 0, api.ErrJournal
	}
	return x, end + sumSize, api.OK
}

// mayBe tells whether there may be such an entry.
func mayBe(e api.Entry) bool {
	if !isKind(e.Kind) {
		return false
	}
	u, f := uses[e.Kind], filled(e)
	// Of what a kind uses only a name and runs can't be empty.
	if !u.has(f) || !f.has(u&(hasName|hasIn)) {
		return false
	}
	return (e.Name == "" || isName(e.Name)) && isUpTo(e.Run, mostRun) &&
		isUpTo(e.Records, mostCount) && isUpTo(e.Lines, mostCount) &&
		len(e.In) <= api.MaxFan && areRuns(e.In)
}

// isKind tells whether there is such a kind of entry.
func isKind(k api.EntryKind) bool { return k >= api.EntryJob && k <= api.EntryOutput }

// filled tells which fields of an entry are not empty.
func filled(e api.Entry) fields {
	var f fields
	add := func(field fields, is bool) {
		if is {
			f |= field
		}
	}
	add(hasPrint, e.Print != 0)
	add(hasName, e.Name != "")
	add(hasRun, e.Run != 0)
	add(hasRecords, e.Records != 0)
	add(hasLines, e.Lines != 0)
	add(hasSum, e.Sum != 0)
	add(hasIn, len(e.In) > 0)
	return f
}

// isUpTo tells whether a number is from 0 to most.
func isUpTo(n, most int) bool { return n >= 0 && n <= most }

// areRuns tells whether these are numbers of runs, rising.
func areRuns(in []int) bool {
	last := -1
	for _, r := range in {
		if r <= last || r > mostRun {
			return false
		}
		last = r
	}
	return true
}

// headOf gives the head of the entry of this number, with a body of this length.
func headOf(n, length int) []byte {
	b := lay([]byte{mark}, uint64(n), lengthAt-numberAt)
	b = lay(b, uint64(length), headSumAt-lengthAt)
	return lay(b, uint64(squeeze.Sum(b)), sumSize)
}

// bodyOf gives the body of an entry that may be.
func bodyOf(e api.Entry) []byte {
	b, u := []byte{byte(e.Kind)}, uses[e.Kind]
	if u.has(hasPrint) {
		b = lay(b, e.Print, 8)
	}
	if u.has(hasName) {
		b = append(lay(b, uint64(len(e.Name)), 1), e.Name...)
	}
	if u.has(hasRun) {
		b = lay(b, uint64(e.Run), 4)
	}
	if u.has(hasRecords) {
		b = lay(b, uint64(e.Records), 8)
	}
	if u.has(hasLines) {
		b = lay(b, uint64(e.Lines), 8)
	}
	if u.has(hasSum) {
		b = lay(b, uint64(e.Sum), 4)
	}
	if u.has(hasIn) {
		b = lay(b, uint64(len(e.In)), 1)
		for _, r := range e.In {
			b = lay(b, uint64(r), 4)
		}
	}
	return b
}

// entryOf gives the entry of a body, and whether it is just that of an entry that may be.
func entryOf(body []byte) (api.Entry, bool) {
	c := cutter{rest: body}
	e := api.Entry{Kind: api.EntryKind(c.number(1))}
	if !isKind(e.Kind) {
		return e, false
	}
	u := uses[e.Kind]
	if u.has(hasPrint) {
		e.Print = c.number(8)
	}
	if u.has(hasName) {
		e.Name = string(c.cut(c.count(1)))
	}
	if u.has(hasRun) {
		e.Run = c.count(4)
	}
	if u.has(hasRecords) {
		e.Records = c.count(8)
	}
	if u.has(hasLines) {
		e.Lines = c.count(8)
	}
	if u.has(hasSum) {
		e.Sum = uint32(c.number(4))
	}
	if u.has(hasIn) {
		for range c.count(1) {
			e.In = append(e.In, c.count(4))
		}
	}
	return e, !c.lacked && len(c.rest) == 0 && mayBe(e)
}

// cutter takes the front off bytes.
type cutter struct {
	rest   []byte
	lacked bool // more was asked for than there was
}

// cut takes n bytes off, or what is left.
func (c *cutter) cut(n int) []byte {
	if n > len(c.rest) {
		c.lacked = true
		n = len(c.rest)
	}
	front := c.rest[:n]
	c.rest = c.rest[n:]
	return front
}

// number takes a number off that has so many bytes.
func (c *cutter) number(size int) uint64 { return number(c.cut(size)) }

// count is number for an int. One that an int can't hold comes out below 0, where no count may be.
func (c *cutter) count(size int) int { return int(c.number(size)) }

// lay writes a number of so many bytes behind others, the highest byte first.
func lay(b []byte, n uint64, size int) []byte {
	for i := size - 1; i >= 0; i-- {
		b = append(b, byte(n>>(8*i)))
	}
	return b
}

// number gives what bytes say, the highest one first.
func number(b []byte) uint64 {
	n := uint64(0)
	for _, x := range b {
		n = n<<8 | uint64(x)
	}
	return n
}
