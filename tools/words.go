package tools

import "mill/api"

// option is what a letter stands for.
type option struct {
	wants bool                    // it wants a value
	set   func(value string) bool // it says no to a value that may not be
}

// options are the letters that a tool has.
type options map[byte]option

// operands does what the options among the words say, and gives the operands.
func (j *job) operands(words []string, known options) []string {
	for len(words) > 0 && len(words[0]) > 1 && words[0][0] == '-' {
		letters := words[0][1:]
		words = words[1:]
		if letters == "-" {
			break
		}
		for letters != "" {
			o, ok := known[letters[0]]
			letters = letters[1:]
			value := ""
			switch {
			case !ok:
				j.usage()
			case o.wants && letters != "":
				value, letters = letters, ""
			case o.wants && len(words) == 0:
				j.usage()
			case o.wants:
				value, words = words[0], words[1:]
			}
			if !o.set(value) {
				j.usage()
			}
		}
	}
	return words
}

func flag(to *bool) option {
	return option{set: func(string) bool {
		*to = true
		return true
	}}
}

func number(to *int) option {
	return option{wants: true, set: func(value string) bool {
		n, ok := readNumber(value)
		*to = n
		return ok
	}}
}

// oneByte takes a value of one byte.
func oneByte(to *string) option {
	return option{wants: true, set: func(value string) bool {
		*to = value
		return len(value) == 1
	}}
}

// readNumber reads a number, which saturates.
func readNumber(s string) (int, bool) {
	n := 0
	for _, c := range []byte(s) {
		if c < '0' || c > '9' {
			return 0, false
		}
		n = min(10*n+int(c-'0'), api.MaxField)
	}
	return n, s != ""
}
