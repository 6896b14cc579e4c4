package collate

import (
	"strings"

	"mill/api"
)

// Sort gives records in order: by Compare, equal ones by their numbers.
func (o *Order) Sort(l []api.Rec) []api.Rec {
	if o == nil || len(l) == 0 {
		return nil
	}
	out := make([]api.Rec, len(l))
	for i, r := range l {
		out[i] = api.Rec{Seq: r.Seq, Line: strings.Clone(r.Line)}
	}
	o.sort(out, make([]api.Rec, len(l)))
	return out
}

// sort sorts by halves, so that of n records each is compared no more often than n can be halved, whatever their order. Room is as long as the list.
func (o *Order) sort(l, room []api.Rec) {
	if len(l) < 2 {
		return
	}
	half := len(l) / 2
	o.sort(l[:half], room[:half])
	o.sort(l[half:], room[half:])
	copy(room, l)
	o.merge(l, room[:half], room[half:])
}

// merge merges two sorted lists: where neither record is ahead, the left one goes first.
func (o *Order) merge(to, left, right []api.Rec) {
	for i := range to {
		if len(left) == 0 || len(right) > 0 && o.ahead(right[0], left[0]) {
			to[i], right = right[0], right[1:]
		} else {
			to[i], left = left[0], left[1:]
		}
	}
}

func (o *Order) ahead(a, b api.Rec) bool {
	c := o.Compare(a.Line, b.Line)
	return c < 0 || c == 0 && a.Seq < b.Seq
}
