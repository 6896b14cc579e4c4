package sortcmd

import (
	"strconv"
	"strings"

	"mill/api"
)

// command begins each line of diagnostics.
const command = "sort: "

// text is what is told of an error.
type text struct{ words string }

// texts are those of the errors that have one.
func texts() map[api.Errno]text {
	return map[api.Errno]text{
		api.ErrIO:       {"device error"},
		api.ErrPower:    {"no power"},
		api.ErrStop:     {"interrupted"},
		api.ErrName:     {"bad name"},
		api.ErrThere:    {"file exists"},
		api.ErrMissing:  {"no such file"},
		api.ErrBusy:     {"file is open"},
		api.ErrFull:     {"too many files"},
		api.ErrHandles:  {"too many open files"},
		api.ErrSpace:    {"no space left"},
		api.ErrLong:     {"line too long"},
		api.ErrOption:   {"unknown option"},
		api.ErrWant:     {"option needs a value"},
		api.ErrGiven:    {"option takes no value"},
		api.ErrKey:      {"bad key"},
		api.ErrCount:    {"bad number"},
		api.ErrTab:      {"bad field separator"},
		api.ErrConflict: {"options do not go together"},
		api.ErrAmbig:    {"ambiguous option"},
		api.ErrMods:     {"modifiers do not go together"},
		api.ErrOperand:  {"bad operand"},
		api.ErrTorn:     {"temporary file torn"},
		api.ErrSpoilt:   {"temporary file spoilt"},
		api.ErrTemps:    {"no free name"},
		api.ErrJournal:  {"bad checkpoint"},
		api.ErrOther:    {"checkpoint of another job"},
	}
}

// Diagnose gives the line of diagnostics for an error, and what it is about.
func Diagnose(e api.Errno, about string) string {
	if e == api.OK {
		return ""
	}
	line := command + textOf(e)
	if about != "" {
		line += ": " + nameOf(about)
	}
	return line
}

// Disorder gives the line of diagnostics of a check.
func Disorder(s api.JobStats) string {
	return command + nameOf(s.File) + ":" + strconv.Itoa(s.At) + ": disorder: " + nameOf(s.Line)
}

// textOf gives what is told of an error.
func textOf(e api.Errno) string {
	if t, ok := texts()[e]; ok {
		return t.words
	}
	return "error " + strconv.Itoa(int(e))
}

// nameOf gives a name so that it stands in one line, and is that of no other one.
func nameOf(s string) string {
	const digits = "0123456789abcdef"
	var b strings.Builder
	for _, c := range []byte(s) {
		switch {
		case c == '\\':
			b.WriteString(`\\`)
		case c < 32 || c >= 127:
			b.WriteString(`\x`)
			b.WriteByte(digits[c>>4])
			b.WriteByte(digits[c&15])
		default:
			b.WriteByte(c)
		}
	}
	return b.String()
}
