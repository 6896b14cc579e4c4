package keyspec

import (
	"slices"

	"mill/api"
)

// Check tells whether an argv says these options.
func Check(o api.Options) api.Errno {
	if !fieldsHold(o) || clash(o) != api.OK {
		return api.ErrConflict
	}
	return api.OK
}

// fieldsHold tells whether each field, looked at alone, is one that words give. That there are no more words than may be need not be asked: with as many keys and operands as may be there is room for all else.
func fieldsHold(o api.Options) bool {
	return len(o.Keys) <= api.MaxKeys && !slices.ContainsFunc(o.Keys, func(k api.Key) bool { return !keyHolds(k) }) &&
		o.Mods&^allMods == 0 &&
		within(o.Tab, -1, 255) &&
		o.Check <= api.CheckSilent &&
		(o.HasOutput || o.Output == "") &&
		within(o.Lines, 0, api.MaxLines) &&
		within(o.Bytes, 0, api.MaxBytes) &&
		(o.Fan == 0 || within(o.Fan, api.MinFan, api.MaxFan)) &&
		within(o.Parallel, 0, api.MaxParallel) &&
		(o.Temp == "" || prefixHolds(o.Temp)) &&
		len(o.Output) <= api.MaxWord && len(o.Checkpoint) <= api.MaxWord &&
		!slices.ContainsFunc(o.Files, func(name string) bool { return len(name) > api.MaxWord })
}

func within(n, least, most int) bool { return n >= least && n <= most }

// clash tells what options have against one another.
func clash(o api.Options) api.Errno {
	for _, k := range Effective(o) {
		if !together(k.Mods) {
			return api.ErrMods
		}
	}
	checks := o.Check != api.CheckNone
	switch {
	case checks && (o.Merge || o.HasOutput), o.Checkpoint != "" && !mayResume(o):
		return api.ErrConflict
	case len(o.Files) > api.MaxOperands, checks && len(o.Files) > 1:
		return api.ErrOperand
	}
	return api.OK
}

// mayResume tells whether all else goes together with the checkpoint.
func mayResume(o api.Options) bool {
	own := func(name string) bool { return name == o.Checkpoint || name == o.Checkpoint+".new" }
	unfit := func(name string) bool { return name == "-" || own(name) }
	return !o.Merge && o.Check == api.CheckNone && o.HasOutput && !own(o.Output) &&
		len(o.Files) > 0 && !slices.ContainsFunc(o.Files, unfit)
}
