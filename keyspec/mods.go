package keyspec

import (
	"strings"

	"mill/api"
)

// letters are those of the modifiers, in the order in which they are printed.
const letters = "bdfghiMnrV"

// bits are what the letters say, one by one.
var bits = [...]api.Mods{
	api.ModB, api.ModD, api.ModF, api.ModG, api.ModH, api.ModI, api.ModM, api.ModN, api.ModR, api.ModV,
}

const (
	kinds   = api.ModN | api.ModG | api.ModH | api.ModM | api.ModV
	allMods = kinds | api.ModB | api.ModD | api.ModF | api.ModI | api.ModR
)

// modOf gives the modifier that a letter says; 0: none.
func modOf(letter byte) api.Mods {
	i := strings.IndexByte(letters, letter)
	if i < 0 {
		return 0
	}
	return bits[i]
}

func lettersOf(mods api.Mods) string {
	var b strings.Builder
	for i, m := range bits {
		if mods&m != 0 {
			b.WriteByte(letters[i])
		}
	}
	return b.String()
}

// together tells whether modifiers go together.
func together(mods api.Mods) bool {
	kind := mods & kinds
	return kind == 0 || kind&(kind-1) == 0 && mods&(api.ModD|api.ModI) == 0
}
