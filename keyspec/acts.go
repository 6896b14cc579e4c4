package keyspec

import (
	"strings"

	"mill/api"
)

// act is what an option does with its value, or says against it.
type act func(value string) api.Errno

// actsOn gives what each option does to o, by its name.
func actsOn(o *api.Options) map[string]act {
	with := func(set func(o *api.Options, value string) api.Errno) act {
		return func(value string) api.Errno { return set(o, value) }
	}
	acts := map[string]act{
		"check":            with(setCheck),
		"merge":            flag(&o.Merge),
		"stable":           flag(&o.Stable),
		"unique":           flag(&o.Unique),
		"zero-terminated":  flag(&o.Zero),
		"key":              with(addKey),
		"output":           with(setOutput),
		"field-separator":  with(setTab),
		"buffer-size":      number(&o.Bytes, Size),
		"temporary-prefix": with(setTemp),
		"lines":            number(&o.Lines, from1(api.MaxLines)),
		"batch-size":       number(&o.Fan, readFan),
		"parallel":         number(&o.Parallel, from1(api.MaxParallel)),
		"pack":             flag(&o.Pack),
		"checkpoint":       with(setCheckpoint),
		"sort":             with(setSort),
	}
	for _, x := range options {
		if m := modOf(x.letter); m != 0 {
			acts[x.name] = func(string) api.Errno {
				o.Mods |= m
				return api.OK
			}
		}
	}
	return acts
}

func flag(to *bool) act {
	return func(string) api.Errno {
		*to = true
		return api.OK
	}
}

func number(to *int, read func(s string) (int, api.Errno)) act {
	return func(value string) api.Errno {
		n, e := read(value)
		*to = n
		return e
	}
}

func setCheck(o *api.Options, value string) api.Errno {
	mode := api.CheckSilent
	switch value {
	case loud:
		mode = api.CheckLoud
	case quiet, silent:
	default:
		return api.ErrOption
	}
	if o.Check != api.CheckNone && o.Check != mode {
		return api.ErrConflict
	}
	o.Check = mode
	return api.OK
}

func addKey(o *api.Options, value string) api.Errno {
	k, _, e := ParseKey(value)
	if e != api.OK {
		return e
	}
	if len(o.Keys) == api.MaxKeys {
		return api.ErrKey
	}
	o.Keys = append(o.Keys, k)
	return api.OK
}

func setOutput(o *api.Options, value string) api.Errno {
	if o.HasOutput && o.Output != value {
		return api.ErrConflict
	}
	o.Output, o.HasOutput = text(value), true
	return api.OK
}

func setTab(o *api.Options, value string) api.Errno {
	tab := 0
	switch {
	case len(value) == 1:
		tab = int(value[0])
	case value != zeroTab:
		return api.ErrTab
	}
	if o.Tab != -1 && o.Tab != tab {
		return api.ErrTab
	}
	o.Tab = tab
	return api.OK
}

// zeroTab stands for the separator 0, which few command lines can hold.
const zeroTab = `\0`

func setTemp(o *api.Options, value string) api.Errno {
	if !prefixHolds(value) {
		return api.ErrOperand
	}
	o.Temp = text(value)
	return api.OK
}

func prefixHolds(s string) bool {
	return s != "" && len(s) <= api.MaxPrefix && strings.IndexByte(s, 0) < 0
}

func setCheckpoint(o *api.Options, value string) api.Errno {
	if value == "" {
		return api.ErrOperand
	}
	o.Checkpoint = text(value)
	return api.OK
}

// setSort takes a word that is the name of a modifier's option but for the end that these names have in common.
func setSort(o *api.Options, value string) api.Errno {
	x, there := byName(value + "-sort")
	if !there {
		return api.ErrOption
	}
	o.Mods |= modOf(x.letter)
	return api.OK
}
