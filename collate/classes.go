package collate

// class is a set of the classes that a byte is of.
type class uint8

const (
	blank class = 1 << iota
	plain       // a blank, a letter or a digit
	shown       // printable
	small       // a small letter

	mark   = shown
	word   = shown | plain
	letter = shown | plain | small
)

// classes are those of each byte: what stands in no row is of none.
var classes = [256]class{
	'\t': blank | plain,
	' ':  blank | plain | shown,
	'!':  mark, mark, mark, mark, mark, mark, mark, mark, mark, mark, mark, mark, mark, mark, mark,
	'0': word, word, word, word, word, word, word, word, word, word,
	':': mark, mark, mark, mark, mark, mark, mark,
	'A': word, word, word, word, word, word, word, word, word, word, word, word, word,
	'N': word, word, word, word, word, word, word, word, word, word, word, word, word,
	'[': mark, mark, mark, mark, mark, mark,
	'a': letter, letter, letter, letter, letter, letter, letter, letter, letter, letter, letter, letter, letter,
	'n': letter, letter, letter, letter, letter, letter, letter, letter, letter, letter, letter, letter, letter,
	'{': mark, mark, mark, mark,
}

func isBlank(c byte) bool { return classes[c]&blank != 0 }
