package collate_test

import (
	"slices"
	"testing"

	"mill/api"
	"mill/collate"
)

// refused tells that options give no order.
func refused(t *testing.T, o api.Options) {
	t.Helper()
	if order, e := collate.New(o); order != nil || e != api.ErrOrder {
		t.Errorf("New(%+v): %v, %d", o, order, e)
	}
}

// keyed are options of these keys alone.
func keyed(keys ...api.Key) api.Options { return api.Options{Tab: -1, Keys: keys} }

func manyKeys(n int, k api.Key) []api.Key {
	l := make([]api.Key, n)
	for i := range l {
		l[i] = k
	}
	return l
}

const (
	most   = api.MaxField
	farOff = 1<<63 - 1
)

// P5.1: what may be, at its bounds.
func TestNewTakes(t *testing.T) {
	for _, tab := range []int{-1, 0, 1, 9, 32, 127, 128, 255} {
		want(t, "Count", made(t, api.Options{Tab: tab}).Count(), 1)
	}
	for _, k := range []api.Key{
		{Field: 1, Char: 1}, {Field: most, Char: 1}, {Field: 1, Char: most}, {Field: most, Char: most, EndField: most, EndChar: most, EndB: true, Mods: api.ModB},
		{Field: 1, Char: 1, EndField: 1}, {Field: 1, Char: 1, EndField: 1, EndChar: 1}, {Field: 1, Char: 1, EndField: 1, EndB: true}, {Field: 9, Char: 9, EndField: 1, EndChar: 1},
	} {
		want(t, "Count", made(t, keyed(k)).Count(), 1)
		want(t, "Count", made(t, keyed(manyKeys(16, k)...)).Count(), 16)
	}
	made(t, api.Options{Keys: []api.Key{}, Stable: true, Unique: true})
}

// P5.1: what may not be, one past the bounds and far off.
func TestNewRefuses(t *testing.T) {
	for _, tab := range []int{-2, 256, -farOff - 1, farOff} {
		refused(t, api.Options{Tab: tab})
		refused(t, api.Options{Tab: tab, Keys: manyKeys(1, api.Key{Field: 1, Char: 1})})
	}
	for _, k := range []api.Key{
		{}, {Field: 1}, {Char: 1}, {Field: -1, Char: 1}, {Field: 1, Char: -1}, {Field: most + 1, Char: 1}, {Field: 1, Char: most + 1}, {Field: farOff, Char: farOff},
		{Field: 1, Char: 1, EndField: -1}, {Field: 1, Char: 1, EndField: most + 1}, {Field: 1, Char: 1, EndField: 1, EndChar: -1}, {Field: 1, Char: 1, EndField: 1, EndChar: most + 1},
		{Field: 1, Char: 1, EndChar: 1}, {Field: 1, Char: 1, EndB: true}, {Field: 1, Char: 1, EndChar: -1}, {Field: -farOff - 1, Char: 1},
	} {
		refused(t, keyed(k))
		refused(t, keyed(api.Key{Field: 1, Char: 1}, k))
	}
	refused(t, keyed(manyKeys(17, api.Key{Field: 1, Char: 1})...))
	refused(t, keyed(manyKeys(1000, api.Key{Field: 1, Char: 1})...))
}

// goTogether says P4.2 once more.
func goTogether(mods api.Mods) bool {
	kinds := 0
	for _, m := range []api.Mods{api.ModN, api.ModG, api.ModH, api.ModM, api.ModV} {
		if mods&m != 0 {
			kinds++
		}
	}
	return kinds == 0 || kinds == 1 && mods&(api.ModD|api.ModI) == 0
}

// P5.1: all sets of the ten modifiers, and each bit beside them, as global ones that a key inherits and that none does, and as a key's own.
func TestNewModifiers(t *testing.T) {
	one := api.Key{Field: 1, Char: 1}
	own := api.Key{Field: 1, Char: 1, Mods: api.ModR}
	ends := api.Key{Field: 1, Char: 1, EndField: 1, EndB: true}
	for i := range 1 << 16 {
		mods := api.Mods(i)
		known := mods < 2*api.ModR
		told := func(o api.Options, good bool) {
			order, e := collate.New(o)
			if good && (order == nil || e != api.OK) || !good && (order != nil || e != api.ErrOrder) {
				t.Errorf("New(%+v): %v, %d", o, order, e)
			}
		}
		fits := known && goTogether(mods)
		told(api.Options{Tab: -1, Mods: mods}, fits)
		told(api.Options{Tab: -1, Mods: mods, Keys: []api.Key{own, one}}, fits)
		told(api.Options{Tab: -1, Mods: mods, Keys: []api.Key{own, ends}}, known)
		told(keyed(one, api.Key{Field: 2, Char: 1, Mods: mods}), fits)
		if t.Failed() {
			return
		}
	}
}

// P5.1: of the other fields none is looked at, whatever it says.
func TestNewLooksAtFiveFields(t *testing.T) {
	o := made(t, api.Options{
		Tab: -1, Zero: true, Merge: true, Check: 77, Output: "x", Lines: -1, Bytes: -1, Fan: 1, Parallel: -7, Temp: "\x00", Pack: true, Checkpoint: "c", Files: slices.Repeat([]string{"-"}, 500),
	})
	want(t, "Compare", o.Compare("b\x00", "a"), 1)
	made(t, api.Options{Tab: -1, Check: api.CheckLoud, Merge: true, HasOutput: true, Checkpoint: "c", Output: "c", Files: []string{"a", "b"}})
}

// P5.1: an order doesn't see what is done to the options later, and leaves them as they are.
func TestNewKeepsACopy(t *testing.T) {
	keys := []api.Key{{Field: 2, Char: 1, EndField: 2}, {Field: 1, Char: 1, Mods: api.ModR}, {Field: 7, Char: 7}}
	before := slices.Clone(keys)
	options := api.Options{Tab: ',', Mods: api.ModN, Keys: keys[:2]}
	o := made(t, options)
	if !slices.Equal(keys, before) {
		t.Errorf("keys: %v", keys)
	}
	options.Tab, options.Mods, options.Stable, options.Unique = -1, 0, true, true
	for i := range keys {
		keys[i] = api.Key{Field: 3, Char: 3, Mods: api.ModM}
	}
	want(t, "Count", o.Count(), 2)
	want(t, "Span", o.Span("a,bc,d", 0), api.Span{From: 2, To: 4})
	want(t, "Keys", o.Keys("a,9", "a,10"), -1)
	want(t, "Keys", o.Keys("a,9", "b,9"), 1)
	want(t, "Compare", o.Compare("a,9", "a,9"), 0)
	p := made(t, api.Options{Tab: -1, Mods: api.ModF})
	want(t, "Compare", p.Compare("a", "A"), 1)
}

// P5.1: Stable and Unique are looked at, each of them.
func TestNewStableUnique(t *testing.T) {
	for i := range 4 {
		o := made(t, api.Options{Tab: -1, Mods: api.ModF, Stable: i&1 != 0, Unique: i&2 != 0})
		wanted := 1
		if i > 0 {
			wanted = 0
		}
		want(t, "Compare", o.Compare("a", "A"), wanted)
	}
}
