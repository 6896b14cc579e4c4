package keyspec_test

import (
	"slices"
	"testing"

	"mill/api"
	"mill/keyspec"
)

// Examples 1 and 9 of the chapter.
func TestExamples1And9(t *testing.T) {
	o := api.Options{Mods: api.ModN | api.ModR, Keys: []api.Key{{Field: 2, Char: 1}}, Tab: 44, Files: []string{"a", "-b"}}
	takes(t, o, "-nrk2", "a", "-t,", "--", "-b")
	if keys := keyspec.Effective(o); !slices.Equal(keys, []api.Key{{Field: 2, Char: 1, Mods: api.ModN | api.ModR}}) {
		t.Errorf("Effective: %+v", keys)
	}
	argv, e := keyspec.Print(o)
	if !slices.Equal(argv, []string{"-nr", "-t,", "-k2", "--", "a", "-b"}) || e != api.OK {
		t.Errorf("Print: %q, %d", argv, e)
	}
}

// Example 2.
func TestExample2(t *testing.T) {
	k := api.Key{Field: 1, Char: 2, EndField: 3, Mods: api.ModB | api.ModN, EndB: true}
	takes(t, none(func(o *api.Options) { o.Keys = []api.Key{k} }), "-k", "1.2b,3.0nb")
	def, e := keyspec.PrintKey(k)
	want(t, "PrintKey", def, "1.2bn,3b")
	want(t, "PrintKey", e, api.OK)
}

// Example 3.
func TestExample3(t *testing.T) {
	refuses(t, 0, api.ErrKey, "-k0")
	badKey(t, "0", 0, api.ErrKey)
	badKey(t, "1,", 2, api.ErrKey)
	badKey(t, "1.x", 2, api.ErrKey)
	badKey(t, "1n,2x", 4, api.ErrKey)
	goodKey(t, "99999999999", api.Key{Field: 2147483647, Char: 1})
}

// Example 4.
func TestExample4(t *testing.T) {
	long(t, "re", "reverse", api.OK)
	takes(t, none(func(o *api.Options) { o.Mods = api.ModR }), "--re")
	refuses(t, 0, api.ErrAmbig, "--s")
	refuses(t, 0, api.ErrOption, "--sort=n")
	refuses(t, 0, api.ErrGiven, "--stable=1")
	refuses(t, 1, api.ErrWant, "a", "--key")
	refuses(t, 0, api.ErrAmbig, "--ch")
	takes(t, none(func(o *api.Options) { o.Check = api.CheckLoud }), "--check")
}

// Example 5.
func TestExample5(t *testing.T) {
	refuses(t, 0, api.ErrTab, "-t", "--")
	refuses(t, 0, api.ErrWant, "-t")
	takes(t, none(func(o *api.Options) { o.Tab = ':' }), "-t:", "-t:")
	refuses(t, 1, api.ErrTab, "-t:", "-t;")
}

// Example 6.
func TestExample6(t *testing.T) {
	refuses(t, 3, api.ErrOperand, "-c", "a", "b")
	refuses(t, 2, api.ErrConflict, "-co", "x")
	refuses(t, 0, api.ErrConflict, "-cC")
}

// Example 7.
func TestExample7(t *testing.T) {
	takes(t, none(func(o *api.Options) {
		o.Mods = api.ModN | api.ModD
		o.Keys = []api.Key{{Field: 1, Char: 1, Mods: api.ModM}}
	}), "-n", "-d", "-k1M")
	refuses(t, 3, api.ErrMods, "-n", "-d", "-k1")
}

// Example 8.
func TestExample8(t *testing.T) {
	size(t, "10", 10240, api.OK)
	size(t, "10b", 10, api.OK)
	size(t, "1G", 67108864, api.OK)
	size(t, "0", 0, api.ErrCount)
	size(t, "K", 0, api.ErrCount)
}
