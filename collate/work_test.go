package collate_test

import (
	"math/rand"
	"strings"
	"sync"
	"testing"

	"mill/api"
	"mill/collate"
)

// P5.12: lines of half a million bytes are gone through no more than a few times a key: what grew faster would not end here.
func TestLongLines(t *testing.T) {
	const size = 1 << 19
	orders := []string{"", "-f", "-d", "-i", "-n", "-g", "-h", "-M", "-V", "-Vf", "-t, -k2147483647.2147483647b,2147483647.2147483647b -k1,2147483647 -k2147483646,1 -u", "-k2147483647.2147483647b,2147483647.2147483647b -k1000000b,1000001.1b -k2,2 -k1f -s"}
	for _, s := range []string{",", " ", "a ", "a,", "-", "\x00", "0", "9", "a1", ".1", "a"} {
		line := strings.Repeat(s, size/len(s))
		other := line + "~"
		want(t, "Fields", len(collate.Fields(line, ',')), strings.Count(line, ",")+1)
		collate.Fields(line, -1)
		for _, words := range orders {
			o := order(t, words)
			for i := range o.Count() {
				span := o.Span(line, i)
				if len(o.Filter(line, i)) > span.To-span.From {
					t.Errorf("Filter of %q is longer than its span", s)
				}
			}
			c := o.Compare(line, other)
			want(t, "Compare", o.Compare(other, line), -c)
			want(t, "Transform", strings.Compare(o.Transform(line), o.Transform(other)), c)
		}
	}
}

// P5.12: no call panics, at any bytes and numbers.
func TestNoPanics(t *testing.T) {
	r := rand.New(rand.NewSource(16))
	odd := []int{-farOff - 1, -1, 0, 1, 2, 255, 256, most, most + 1, farOff}
	pick := func() int { return odd[r.Intn(len(odd))] }
	lines := strange(17, 200)
	for range 20000 {
		k := api.Key{Field: pick(), Char: pick(), EndField: pick(), EndChar: pick(), Mods: api.Mods(pick()), EndB: r.Intn(2) == 0}
		o, e := collate.New(api.Options{Keys: []api.Key{k}, Mods: api.Mods(pick()), Tab: pick()})
		want(t, "an order", o != nil, e == api.OK)
		a, b, i := lines[r.Intn(len(lines))], lines[r.Intn(len(lines))], pick()
		collate.Fields(a, pick())
		o.Count()
		o.Span(a, i)
		o.Filter(a, i)
		o.Keys(a, b)
		o.Compare(a, b)
		o.Transform(a)
		o.Sort([]api.Rec{{Seq: 1, Line: a}, {Line: b}})
	}
}

// R5: answers are the same whatever was asked before, and whoever asks beside.
func TestNothingIsKept(t *testing.T) {
	lines := someLines()
	var orders []*collate.Order
	for _, words := range manyOrders {
		orders = append(orders, order(t, words))
	}
	type answer struct {
		span           api.Span
		filter, form   string
		keys, compared int
	}
	ask := func(n int) answer {
		o, a, b := orders[n%len(orders)], lines[n%len(lines)], lines[n/7%len(lines)]
		return answer{o.Span(a, 0), o.Filter(a, 0), o.Transform(a), o.Keys(a, b), o.Compare(a, b)}
	}
	const many = 3000
	wanted := make([]answer, many)
	for n := range wanted {
		wanted[n] = ask(n)
	}
	var wait sync.WaitGroup
	for from := range 8 {
		wait.Go(func() {
			for i := range many {
				n := (i*(1+from%2*10) + 31*from) % many
				if a := ask(n); a != wanted[n] {
					t.Errorf("question %d: %+v, want %+v", n, a, wanted[n])
					return
				}
			}
		})
	}
	wait.Wait()
}
