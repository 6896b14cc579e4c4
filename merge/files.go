package merge

import (
	"cmp"

	"mill/api"
	"mill/spill"
)

// Files merges run files; how many records were put.
func Files(order func(a string, b string) int, unique bool, put func(r api.Rec) api.Errno, in ...*spill.Reader) (int, api.Errno) {
	if order == nil || put == nil {
		return 0, api.ErrArg
	}
	sources := make([]Source[api.Rec], len(in))
	for i, r := range in {
		if r == nil {
			return 0, api.ErrNil
		}
		sources[i] = r.Next
	}
	t, e := New(ofRecords(order), sources...)
	if e != api.OK {
		return 0, e
	}
	many, last := 0, ""
	for _, r := range t.All() {
		if unique && many > 0 && order(last, r.Line) == 0 {
			continue
		}
		if e := put(r); e != api.OK {
			return many, e
		}
		many++
		last = r.Line
	}
	_, e = t.Err()
	return many, e
}

// ofRecords gives an order of records: by an order of their lines, and of those that count as one by their numbers.
func ofRecords(order func(a, b string) int) func(a, b api.Rec) int {
	return func(a, b api.Rec) int {
		if c := order(a.Line, b.Line); c != 0 {
			return c
		}
		return cmp.Compare(a.Seq, b.Seq)
	}
}
