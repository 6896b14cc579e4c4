package tools

import (
	"slices"

	"mill/api"
	"mill/lineio"
	"mill/simfs"
)

// The statuses.
const (
	statusRefused = 1
	statusWrong   = 2
	statusStopped = 130
)

// bufSize is the size of each Reader and Writer.
const bufSize = 4096

// job is one run of a tool.
type job struct {
	fs      *simfs.FS
	name    string
	in      *simfs.File
	out     *lineio.Writer
	errs    *simfs.File
	reading []*simfs.File // what is open, in the order in which it was opened: no tool opens a file to write ahead of one to read
	writing []*simfs.File
	status  int // the greatest of those that were named so far
}

// end is thrown where a tool ends at once.
type end struct {
	status int
	why    api.Errno
}

// run runs a tool. What it leaves open is closed, whichever way it ends.
func (j *job) run(t tool, words []string) (status int, why api.Errno) {
	defer func() {
		switch x := recover().(type) {
		case nil:
		case end:
			status, why = x.status, x.why
		default:
			// No layer below panics. If one does all the same, whoever has called the tool does not.
			status, why = statusWrong, api.OK
		}
	}()
	// A loss of power that shows here takes the place of what the tool has ended by.
	defer j.closeAll()
	t(j, words)
	j.closeReading()
	j.flush()
	return j.status, api.OK
}

func (j *job) closeAll() {
	j.closeReading()
	for len(j.writing) > 0 {
		j.close(j.writing[0])
	}
}

func (j *job) closeReading() {
	for len(j.reading) > 0 {
		j.close(j.reading[0])
	}
}

// look ends the tool, if the interrupt has come.
func (j *job) look() {
	if j.fs.Stopped() {
		panic(end{statusStopped, api.ErrStop})
	}
}

// needPower ends the tool, if a call was answered with ErrPower.
func (j *job) needPower(e api.Errno) {
	if e == api.ErrPower {
		// There may be no further call: nothing is closed on the way out.
		j.reading, j.writing = nil, nil
		panic(end{why: api.ErrPower})
	}
}

// message writes a line of diagnostics.
func (j *job) message(text string) {
	_, e := j.errs.Write([]byte(j.name + ": " + text + "\n"))
	j.needPower(e)
}

// usage ends the tool, as its words may not be.
func (j *job) usage() {
	j.message("usage")
	panic(end{status: statusWrong})
}

// refused tells whether a call was refused, and has a message written if it was.
func (j *job) refused(about string, e api.Errno) bool {
	if e == api.OK {
		return false
	}
	j.needPower(e)
	j.message(about + ": " + e.Error())
	j.status = max(j.status, statusRefused)
	return true
}

// open opens an operand; nil, if that is refused.
func (j *job) open(operand string, mode api.Mode) *simfs.File {
	j.look()
	f, e := j.fs.Open(operand, mode)
	if j.refused(operand, e) {
		return nil
	}
	if mode == api.ModeRead {
		j.reading = append(j.reading, f)
	} else {
		j.writing = append(j.writing, f)
	}
	return f
}

// close closes a file that open gave.
func (j *job) close(f *simfs.File) {
	isIt := func(g *simfs.File) bool { return g == f }
	j.reading = slices.DeleteFunc(j.reading, isIt)
	j.writing = slices.DeleteFunc(j.writing, isIt)
	j.needPower(f.Close())
}

// put puts out bytes as they are.
func (j *job) put(s string) { j.wrote(j.out.Raw(s)) }

func (j *job) flush() { j.wrote(j.out.Flush()) }

// wrote ends the tool, if a Write of what goes out was refused.
func (j *job) wrote(e api.Errno) {
	if j.refused("output", e) {
		panic(end{status: j.status})
	}
}

func writerTo(f *simfs.File) *lineio.Writer {
	w, _ := lineio.NewWriter(f, bufSize, '\n')
	return w
}
