package spill

import "mill/api"

// queue holds bytes: those that come join at its end, those that are used leave at its begin.
type queue struct {
	b    []byte
	from int
}

// bytes are those that have come and not left.
func (q *queue) bytes() []byte { return q.b[q.from:] }

// leave takes the first n bytes off.
func (q *queue) leave(n int) { q.from += n }

// join lays bytes behind the last one.
func (q *queue) join(b []byte) {
	q.close()
	q.b = append(q.b, b...)
}

// close moves the bytes to where those stood that have left: so what is kept does not grow with what went through.
func (q *queue) close() {
	if q.from > 0 {
		q.b = q.b[:copy(q.b, q.b[q.from:])]
		q.from = 0
	}
}

// recordHead gives what stands in the stream ahead of a record's line, and how many bytes it has.
func recordHead(r api.Rec) ([2 * groupsMost]byte, int) {
	var h [2 * groupsMost]byte
	seq, n := groups(r.Seq)
	length, m := groups(uint64(len(r.Line)))
	copy(h[:], seq[:n])
	copy(h[n:], length[:m])
	return h, n + m
}

// groups gives a number in groups, and how many there are.
func groups(n uint64) ([groupsMost]byte, int) {
	var g [groupsMost]byte
	size := 1
	for ; n >= 128; size++ {
		g[size-1] = byte(n) | 128
		n >>= 7
	}
	g[size-1] = byte(n)
	return g, size
}

// ungroup reads a number in groups at the head of b, and tells how many bytes it has: 0, if it is not whole yet, -1, if it may not be.
func ungroup(b []byte) (uint64, int) {
	n := uint64(0)
	for i, x := range b[:min(len(b), groupsMost)] {
		if x == 0 && i > 0 || x > 1 && i == groupsMost-1 {
			return 0, -1
		}
		n |= uint64(x&127) << (7 * i)
		if x < 128 {
			return n, i + 1
		}
	}
	return 0, 0
}

// firstRecord reads a record at the head of b, and tells how many bytes it has: 0, if it is not whole yet, -1, if it may not be.
func firstRecord(b []byte) (api.Rec, int) {
	seq, n := ungroup(b)
	if n <= 0 {
		return api.Rec{}, n
	}
	length, m := ungroup(b[n:])
	if length > api.MaxLine {
		return api.Rec{}, -1
	}
	if m <= 0 {
		return api.Rec{}, m
	}
	line := b[n+m:]
	if uint64(len(line)) < length {
		return api.Rec{}, 0
	}
	return api.Rec{Seq: seq, Line: string(line[:length])}, n + m + int(length)
}
