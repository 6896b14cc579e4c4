package runs

import (
	"runtime"
	"slices"
	"testing"
	"time"

	"mill/api"
)

// P13.5: a panic in a goroutine of a sort comes out of the call, where it can be recovered: the first part's that has one; all goroutines have ended then.
func TestSortPanics(t *testing.T) {
	before := runtime.NumGoroutine()
	l := make([]api.Rec, 16)
	for i := range l {
		l[i].Seq = uint64(i)
	}
	// Of each part only its first record is looked at.
	sortOf := func(broken ...uint64) (thrown any) {
		defer func() { thrown = recover() }()
		parts, ok := sortParts(func(recs []api.Rec) []api.Rec {
			if slices.Contains(broken, recs[0].Seq) {
				panic(recs[0].Seq)
			}
			return recs
		}, cut(l, 8), nil)
		if !ok || len(parts) != 8 || parts[7][1].Seq != 15 {
			t.Errorf("%v, %v", parts, ok)
		}
		return nil
	}
	for range 50 {
		for _, x := range []struct {
			broken []uint64
			thrown any
		}{{nil, nil}, {[]uint64{1, 3}, nil}, {[]uint64{0}, uint64(0)}, {[]uint64{14}, uint64(14)}, {[]uint64{12, 4, 8}, uint64(4)}} {
			if thrown := sortOf(x.broken...); thrown != x.thrown {
				t.Errorf("%v: %v, want %v", x.broken, thrown, x.thrown)
			}
		}
	}
	for range 1000 {
		if runtime.NumGoroutine() <= before {
			return
		}
		time.Sleep(time.Millisecond)
	}
	t.Error("goroutines are left")
}
