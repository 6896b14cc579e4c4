package keyspec

import (
	"strings"

	"mill/api"
)

// option is a row of the chapter's table.
type option struct {
	name   string
	letter byte   // 0: it has none
	wants  bool   // it wants a value
	lone   string // the value that stands for it where none is given; "": it may have none
}

// What --check may say.
const (
	loud   = "diagnose-first"
	quiet  = "quiet"
	silent = "silent"
)

var options = [...]option{
	{name: "ignore-leading-blanks", letter: 'b'},
	{name: "dictionary-order", letter: 'd'},
	{name: "ignore-case", letter: 'f'},
	{name: "general-numeric-sort", letter: 'g'},
	{name: "human-numeric-sort", letter: 'h'},
	{name: "ignore-nonprinting", letter: 'i'},
	{name: "month-sort", letter: 'M'},
	{name: "numeric-sort", letter: 'n'},
	{name: "reverse", letter: 'r'},
	{name: "version-sort", letter: 'V'},
	// One option with two letters: by its name it is the first one.
	{name: "check", letter: 'c', lone: loud},
	{name: "check", letter: 'C', lone: quiet},
	{name: "merge", letter: 'm'},
	{name: "stable", letter: 's'},
	{name: "unique", letter: 'u'},
	{name: "zero-terminated", letter: 'z'},
	{name: "key", letter: 'k', wants: true},
	{name: "output", letter: 'o', wants: true},
	{name: "field-separator", letter: 't', wants: true},
	{name: "buffer-size", letter: 'S', wants: true},
	{name: "temporary-prefix", letter: 'T', wants: true},
	{name: "lines", wants: true},
	{name: "batch-size", wants: true},
	{name: "parallel", wants: true},
	{name: "pack"},
	{name: "checkpoint", wants: true},
	{name: "sort", wants: true},
}

// byLetter gives the option that a byte of a cluster is.
func byLetter(c byte) (option, bool) {
	// The byte 0 is what stands in the table where there is no letter.
	if c == 0 {
		return option{}, false
	}
	for _, x := range options {
		if x.letter == c {
			return x, true
		}
	}
	return option{}, false
}

func byName(name string) (option, bool) {
	for _, x := range options {
		if x.name == name {
			return x, true
		}
	}
	return option{}, false
}

// byBeginning gives the option that a long option's name, or its beginning, is.
func byBeginning(word string) (option, api.Errno) {
	if x, there := byName(word); there {
		return x, api.OK
	}
	if word == "" {
		return option{}, api.ErrOption
	}
	var found option
	for _, x := range options {
		switch {
		case !strings.HasPrefix(x.name, word):
		case found.name == "":
			found = x
		case found.name != x.name:
			return option{}, api.ErrAmbig
		}
	}
	if found.name == "" {
		return option{}, api.ErrOption
	}
	return found, api.OK
}
