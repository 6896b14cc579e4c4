package squeeze_test

import (
	"bytes"
	"math"
	"math/rand"
	"slices"
	"sync"
	"testing"

	"mill/squeeze"
)

// P6.9: what is handed in is as it was, spare room too, and answers are new memory.
func TestBytesAreNotShared(t *testing.T) {
	for _, n := range blocks() {
		in := roomy(n.b, 0xA5)
		squeeze.Sum(in)
		squeeze.SumMore(7, in)
		squeeze.Hash(in)
		one, _ := squeeze.Store(in)
		two, _ := squeeze.Store(in)
		three, _ := squeeze.Pack(in)
		four, _ := squeeze.Pack(in)
		untouched(t, n.name, in, n.b, 0xA5)
		stored, packed := roomy(one, 0xA5), roomy(three, 0xA5)
		squeeze.Look(packed)
		five, _, _ := squeeze.Unpack(stored, len(in))
		six, _, _ := squeeze.Unpack(packed, len(in))
		seven, _, _ := squeeze.Unpack(packed, len(in))
		untouched(t, n.name+", stored", stored, one, 0xA5)
		untouched(t, n.name+", packed", packed, three, 0xA5)
		apart(t, n.name, ofList(in), ofList(one), ofList(two), ofList(three), ofList(four), ofList(stored), ofList(packed), ofList(five), ofList(six), ofList(seven))
	}
}

// P6.9: the same of Lengths and Codes.
func TestNumbersAreNotShared(t *testing.T) {
	for _, l := range [][]int{{1, 3, 3, 2}, {0, 1}, {4, 4, 4}, {}, {1, 2, 9}, {-1}, make([]int, 513)} {
		in := roomy(l, -77)
		one, _ := squeeze.Lengths(in, 15)
		two, _ := squeeze.Lengths(in, 15)
		three, _ := squeeze.Codes(in)
		four, _ := squeeze.Codes(in)
		untouched(t, "numbers", in, l, -77)
		apart(t, "numbers", ofList(in), ofList(one), ofList(two), ofList(three), ofList(four))
	}
}

// P6.9: no call panics or fails to end, at any arguments.
func TestAnyArguments(t *testing.T) {
	r := rand.New(rand.NewSource(13))
	numbers := []int{math.MinInt, -1 << 40, -1, 0, 1, 2, 3, 14, 15, 16, 17, 511, 512, 1 << 24, 1<<40 - 1, 1 << 40, 1<<40 + 1, math.MaxInt}
	for range 3000 {
		l := make([]int, r.Intn(5)*r.Intn(150))
		for i := range l {
			l[i] = numbers[r.Intn(len(numbers))]
			if r.Intn(4) > 0 {
				l[i] = r.Intn(16)
			}
		}
		squeeze.Lengths(l, numbers[r.Intn(len(numbers))])
		squeeze.Codes(l)
		squeeze.Bound(numbers[r.Intn(len(numbers))])
		b := make([]byte, r.Intn(60))
		r.Read(b)
		squeeze.Unpack(b, numbers[r.Intn(len(numbers))])
		squeeze.Look(b)
		body := join(b, make([]byte, 1))
		squeeze.Unpack(block(0xB5, 2, 1+r.Intn(1<<24-1), len(body), body), math.MaxInt)
	}
}

// P6.9, R5: each answer hangs on the arguments alone, also where several goroutines ask at once.
func TestAnswersAreTheSame(t *testing.T) {
	kinds := blocks()
	answers := make([][][]byte, 4)
	var group sync.WaitGroup
	for i := range answers {
		group.Go(func() {
			for k := range kinds {
				n := kinds[(k+i)%len(kinds)]
				p, _ := squeeze.Pack(n.b)
				raw, _, _ := squeeze.Unpack(p, len(n.b))
				if !bytes.Equal(raw, n.b) {
					t.Errorf("%s: another block is unpacked", n.name)
				}
				answers[i] = append(answers[i], p)
			}
		})
	}
	group.Wait()
	for i := range answers {
		turned := slices.Concat(answers[i][len(kinds)-i:], answers[i][:len(kinds)-i])
		for k, p := range turned {
			if !bytes.Equal(p, answers[0][k]) {
				t.Errorf("%s: two answers", kinds[k].name)
			}
		}
	}
}
