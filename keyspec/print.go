package keyspec

import (
	"strconv"

	"mill/api"
)

// Print gives an argv whose options these are.
func Print(o api.Options) ([]string, api.Errno) {
	if Check(o) != api.OK {
		return nil, api.ErrConflict
	}
	var p printer
	p.cluster(lettersOf(o.Mods))
	p.cluster(flagsOf(o))
	p.tab(o.Tab)
	for _, k := range o.Keys {
		def, _ := PrintKey(k)
		p.word("-k", def)
	}
	if o.HasOutput {
		p.word("-o", "")
		p.word(o.Output, "")
	}
	p.number("--lines=", o.Lines, "")
	p.number("--buffer-size=", o.Bytes, "b")
	p.number("--batch-size=", o.Fan, "")
	p.number("--parallel=", o.Parallel, "")
	if o.Temp != "" {
		p.word("--temporary-prefix=", o.Temp)
	}
	if o.Pack {
		p.word("--pack", "")
	}
	if o.Checkpoint != "" {
		p.word("--checkpoint", "")
		p.word(o.Checkpoint, "")
	}
	if len(o.Files) > 0 {
		p.word("--", "")
	}
	for _, name := range o.Files {
		p.word(name, "")
	}
	return p.words, api.OK
}

// printer gathers the words of an argv.
type printer struct {
	words []string
}

// word adds a word of two parts.
func (p *printer) word(first, second string) { p.words = append(p.words, text(first+second)) }

func (p *printer) cluster(s string) {
	if s != "" {
		p.word("-", s)
	}
}

func (p *printer) tab(tab int) {
	switch tab {
	case -1:
	case 0:
		p.word("-t", zeroTab)
	default:
		p.word("-t", string([]byte{byte(tab)}))
	}
}

func (p *printer) number(name string, n int, unit string) {
	if n != 0 {
		p.word(name, strconv.Itoa(n)+unit)
	}
}

func flagsOf(o api.Options) string {
	s := ""
	switch o.Check {
	case api.CheckLoud:
		s = "c"
	case api.CheckSilent:
		s = "C"
	}
	if o.Merge {
		s += "m"
	}
	if o.Stable {
		s += "s"
	}
	if o.Unique {
		s += "u"
	}
	if o.Zero {
		s += "z"
	}
	return s
}
