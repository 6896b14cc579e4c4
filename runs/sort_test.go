package runs_test

import (
	"math/rand"
	"runtime"
	"runtime/metrics"
	"slices"
	"strings"
	"sync"
	"testing"
	"time"

	"mill/api"
	"mill/collate"
	"mill/runs"
)

// sorts holds what Sort gives of records, by each number of goroutines, and that it leaves them as they are, spare room included.
func sorts(t *testing.T, what string, o *collate.Order, l, wanted []api.Rec) {
	t.Helper()
	l = append(slices.Clone(l), api.Rec{Seq: 99, Line: "spare"}, api.Rec{Seq: 98, Line: "room"})
	before := slices.Clone(l)
	n := len(l) - 2
	for parallel := 1; parallel <= api.MaxParallel; parallel++ {
		got, ok := runs.Sort(o, l[:n], parallel, nil)
		want(t, what, ok, true)
		same(t, what, got, wanted)
		same(t, what+": the records handed in", l, before)
	}
}

// refused tells that Sort sorts nothing.
func refused(t *testing.T, what string, o *collate.Order, l []api.Rec, parallel int, done <-chan struct{}) {
	t.Helper()
	got, ok := runs.Sort(o, l, parallel, done)
	same(t, what, got, nil)
	want(t, what, ok, false)
}

// P8.12: what is refused, whatever the list.
func TestSortRefuses(t *testing.T) {
	o := order(t, "")
	for _, l := range [][]api.Rec{nil, recs("a"), recs("b", "a")} {
		refused(t, "no order", nil, l, 1, nil)
		for _, parallel := range []int{0, -1, api.MaxParallel + 1, 1<<63 - 1, -1 << 63, 1<<32 + 1} {
			refused(t, "a wrong number of goroutines", o, l, parallel, nil)
		}
		for parallel := 1; parallel <= api.MaxParallel; parallel++ {
			refused(t, "done is closed", o, l, parallel, shut())
		}
	}
}

// P8.12: a done that is closed already is seen ahead of all work, not by chance in the midst of it; also if there is something in it yet.
func TestSortLooksFirst(t *testing.T) {
	o, l := order(t, ""), recs("b", "a")
	for _, sent := range []int{0, 1, 2, 30} {
		before := goroutinesMade()
		for range 100 {
			done := make(chan struct{}, sent)
			for range sent {
				done <- struct{}{}
			}
			close(done)
			refused(t, "done is closed", o, l, 4, done)
		}
		if made := goroutinesMade() - before; made >= 100 {
			t.Errorf("100 Sorts that have nothing to do have made %d goroutines", made)
		}
	}
}

// P8.12: a few records, by hand: equal lines go by their numbers, not by where they stand, and those of one number as they stand.
func TestSort(t *testing.T) {
	const top = 1<<64 - 1
	sorts(t, "none", order(t, ""), nil, nil)
	sorts(t, "none", order(t, ""), []api.Rec{}, nil)
	sorts(t, "one", order(t, ""), recs("b"), recs("b"))
	sorts(t, "-r", order(t, "-r"), recs("b", "", "a", "b"), []api.Rec{{Seq: 0, Line: "b"}, {Seq: 3, Line: "b"}, {Seq: 2, Line: "a"}, {Seq: 1, Line: ""}})
	l := []api.Rec{{Seq: top, Line: "a"}, {Seq: 3, Line: "A"}, {Seq: 1 << 63, Line: "a"}, {Seq: 3, Line: "a"}, {Seq: 0, Line: "b"}, {Seq: 3, Line: "A"}, {Seq: 0, Line: "a"}}
	sorts(t, "-fs", order(t, "-fs"), l, []api.Rec{l[6], l[1], l[3], l[5], l[2], l[0], l[4]})
	sorts(t, "-fsr", order(t, "-fsr"), l, []api.Rec{l[4], l[6], l[1], l[3], l[5], l[2], l[0]})
}

// P8.12: all short lists of lines of which many are equal, with numbers of which some are.
func TestSortShortLists(t *testing.T) {
	o := order(t, "-fs")
	for _, s := range texts("abA", 5) {
		for _, numbers := range []int{1, 2, 100} {
			l := recs(strings.Split(s, "")...)
			for i := range l {
				l[i].Seq = uint64(9-i) % uint64(numbers)
			}
			sorts(t, s, o, l, sortedSlowly(o, l))
		}
	}
}

// P8.12: the same as layer 5's Sort, of many records by many orders, with numbers that meet; also on a done that is never closed.
func TestSortManyRecords(t *testing.T) {
	r := rand.New(rand.NewSource(15))
	lines := anyLines(16, 3000)
	for _, words := range someOrders {
		o := order(t, words)
		l := make([]api.Rec, 2000+r.Intn(1000))
		for i := range l {
			l[i] = api.Rec{Seq: uint64(r.Intn(50)), Line: lines[r.Intn(len(lines))]}
		}
		wanted := o.Sort(l)
		sorts(t, words, o, l, wanted)
		got, ok := runs.Sort(o, l, 5, make(chan struct{}))
		want(t, words, ok, true)
		same(t, words, got, wanted)
	}
}

// P8.12: what is sent over done is no closing.
func TestSentOverDone(t *testing.T) {
	o := order(t, "")
	for i := range 100 {
		done := make(chan struct{}, 50)
		for range i % 50 {
			done <- struct{}{}
		}
		got, ok := runs.Sort(o, recs("b", "a"), 1+i%5, done)
		want(t, "Sort", ok, true)
		same(t, "Sort", got, []api.Rec{{Seq: 1, Line: "a"}, {Seq: 0, Line: "b"}})
	}
	done, over := make(chan struct{}), make(chan struct{})
	var sender sync.WaitGroup
	sender.Go(func() {
		for {
			select {
			case done <- struct{}{}:
			case <-over:
				return
			}
		}
	})
	for range 100 {
		got, ok := runs.Sort(o, recs("b", "a"), 2, done)
		want(t, "Sort", ok, true)
		same(t, "Sort", got, []api.Rec{{Seq: 1, Line: "a"}, {Seq: 0, Line: "b"}})
	}
	close(over)
	sender.Wait()
}

// working tells whether a goroutine sorts or waits to be asked for what it has sorted.
func working() bool {
	room := make([]byte, 1<<18)
	all := string(room[:runtime.Stack(room, true)])
	return strings.Contains(all, "mill/collate.(*Order).Sort") || strings.Contains(all, "[select]:\nmill/runs.") || strings.Contains(all, "[chan send]:\nmill/runs.")
}

// P8.12, R5: done is closed at some moment: the answer is all or nothing, and no goroutine goes on behind it.
func TestSortStopped(t *testing.T) {
	o := order(t, "-n")
	l := recs(numbered(17, 20000, 12)...)
	wanted := o.Sort(l)
	r := rand.New(rand.NewSource(18))
	stopped := 0
	for i := range 60 {
		done := make(chan struct{})
		pause := time.Duration(r.Intn(1+i)) * 300 * time.Microsecond
		var closer sync.WaitGroup
		closer.Go(func() {
			time.Sleep(pause)
			close(done)
		})
		got, ok := runs.Sort(o, l, 1+i%api.MaxParallel, done)
		if working() {
			t.Error("a goroutine goes on")
		}
		if ok {
			same(t, "Sort", got, wanted)
		} else {
			same(t, "Sort", got, nil)
			stopped++
		}
		closer.Wait()
	}
	t.Log(stopped, "of 60 were given up")
}

// P8.12: behind a Sort that was not stopped, too, all goroutines have ended.
func TestSortEndsItsGoroutines(t *testing.T) {
	o := order(t, "")
	before := runtime.NumGoroutine()
	for i := range 300 {
		runs.Sort(o, recs("b", "a", "c"), 1+i%api.MaxParallel, nil)
		if working() {
			t.Fatal("a goroutine goes on")
		}
	}
	// One that has said that it has ended may take a moment yet to do so.
	for range 1000 {
		if runtime.NumGoroutine() <= before {
			return
		}
		time.Sleep(time.Millisecond)
	}
	t.Errorf("%d goroutines, %d before", runtime.NumGoroutine(), before)
}

// P8.12: each part has a goroutine of its own: so many are made by each Sort, whatever the list.
func TestSortByGoroutines(t *testing.T) {
	const times = 50
	o := order(t, "")
	for _, l := range [][]api.Rec{nil, recs("b", "a"), recs(anyLines(19, 100)...)} {
		for parallel := 1; parallel <= api.MaxParallel; parallel++ {
			before := goroutinesMade()
			for range times {
				runs.Sort(o, l, parallel, nil)
			}
			// The language's own work makes a few besides.
			if made := goroutinesMade() - before; made < times*parallel || made >= times*(parallel+1) {
				t.Errorf("%d Sorts of %d records by %d goroutines have made %d", times, len(l), parallel, made)
			}
		}
	}
}

// goroutinesMade tells how many goroutines have been made so far.
func goroutinesMade() int {
	sample := []metrics.Sample{{Name: "/sched/goroutines-created:goroutines"}}
	metrics.Read(sample)
	return int(sample[0].Value.Uint64())
}

// P8.12, R5: several Sorts at once, of one order and one list, do not meet.
func TestSortsAtOnce(t *testing.T) {
	o := order(t, "-k1,1 -k2n")
	l := recs(anyLines(20, 2000)...)
	wanted := o.Sort(l)
	var all sync.WaitGroup
	for i := range 8 {
		all.Go(func() {
			for range 10 {
				got, ok := runs.Sort(o, l, 1+i, nil)
				if !ok || !slices.Equal(got, wanted) {
					t.Errorf("Sort by %d goroutines: %v, %d records", 1+i, ok, len(got))
				}
			}
		})
	}
	all.Wait()
}

// P8.13, R4: what Sort gives shares nothing with what it took, nor with another answer.
func TestSortSharesNothing(t *testing.T) {
	o := order(t, "")
	for _, lines := range [][]string{nil, {"one"}, {"b", "a", "b"}, {"c", "a", "b", "longer lines", "d"}} {
		for _, parallel := range []int{1, 2, 3, 8} {
			l := slices.Grow(recs(lines...), 3)
			a, _ := runs.Sort(o, l, parallel, nil)
			b, _ := runs.Sort(o, l, parallel, nil)
			apart(t, "Sort", slices.Concat(ofRecs(l), ofRecs(a), ofRecs(b)))
		}
	}
}
