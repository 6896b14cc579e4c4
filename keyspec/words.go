package keyspec

import (
	"strings"

	"mill/api"
)

// reader goes through the words of an argv.
type reader struct {
	argv []string
	next int
	acts map[string]act
}

// readWords gives o what the words say, and tells the number of the word at fault.
func readWords(argv []string, o *api.Options) (int, api.Errno) {
	r := &reader{argv: argv, acts: actsOn(o)}
words:
	for r.next < len(argv) {
		place := r.next
		word := r.take()
		switch {
		case word == "--":
			break words
		case strings.HasPrefix(word, "--"):
			if e := r.long(word[2:]); e != api.OK {
				return place, e
			}
		case len(word) > 1 && word[0] == '-':
			for i := 1; i < len(word); i++ {
				x, there := byLetter(word[i])
				if !there {
					return place, api.ErrOption
				}
				rest := word[i+1:]
				if e := r.do(x, rest, x.wants && rest != ""); e != api.OK {
					return place, e
				}
				if x.wants {
					continue words
				}
			}
		default:
			o.Files = append(o.Files, text(word))
		}
	}
	for r.next < len(argv) {
		o.Files = append(o.Files, text(r.take()))
	}
	return 0, api.OK
}

// take gives the next word, which must be there.
func (r *reader) take() string {
	r.next++
	return r.argv[r.next-1]
}

// long does what a long option says, from behind its two dashes on.
func (r *reader) long(s string) api.Errno {
	name, value, given := strings.Cut(s, "=")
	x, e := byBeginning(name)
	if e != api.OK {
		return e
	}
	return r.do(x, value, given)
}

// do does what an option says: with its value, if one is given with it, else with the one that it finds.
func (r *reader) do(x option, value string, given bool) api.Errno {
	switch {
	case given && !x.wants && x.lone == "":
		return api.ErrGiven
	case given:
	case !x.wants:
		value = x.lone
	case r.next == len(r.argv):
		return api.ErrWant
	default:
		value = r.take()
	}
	return r.acts[x.name](value)
}

// text gives a copy of a text: what is answered shares no memory with what was handed in.
func text(s string) string { return strings.Clone(s) }
