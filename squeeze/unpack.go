package squeeze

import "mill/api"

// fault is what is thrown deep inside of a body that may not be, and caught by Unpack.
type fault struct {
	place int
	errno api.Errno
}

// unpacked gives the raw bytes, of which there are size, of a body of mode 2, or panics with a fault.
func unpacked(body []byte, size int) []byte {
	r := &bitReader{body: body}
	first, second := r.codes()
	raw := make([]byte, 0, min(size, api.MaxMatch*len(body))) // a body can't make more, whatever it says
	for len(raw) < size {
		r.begin()
		symbol := r.symbol(first)
		if symbol < backs {
			raw = append(raw, byte(symbol))
			continue
		}
		length := r.value(symbol-backs, lengthBase)
		distance := r.value(r.symbol(second), distanceBase)
		if distance > len(raw) || length > size-len(raw) {
			panic(r.fault(api.ErrPacked))
		}
		for range length {
			raw = append(raw, raw[len(raw)-distance])
		}
	}
	r.end()
	return raw
}

// bitReader reads a body's bits, the highest bit of each byte first.
type bitReader struct {
	body []byte
	at   int // number of the next bit
	from int // number of the bit that a fault is told at
}

// begin makes the next bit the one that a fault is told at.
func (r *bitReader) begin() { r.from = r.at }

// fault gives a fault to be thrown.
func (r *bitReader) fault(e api.Errno) fault { return fault{headSize + r.from/8, e} }

// left tells how many bits are left.
func (r *bitReader) left() int { return 8*len(r.body) - r.at }

// ahead gives the next MaxBits bits without going on; behind the body's end they are 0.
func (r *bitReader) ahead() int {
	bits := 0
	for i := r.at / 8; i < r.at/8+3; i++ {
		bits <<= 8
		if i < len(r.body) {
			bits |= int(r.body[i])
		}
	}
	return bits >> (24 - api.MaxBits - r.at%8) & (1<<api.MaxBits - 1)
}

// skip goes on by n bits, which must be there.
func (r *bitReader) skip(n int) {
	if n > r.left() {
		panic(r.fault(api.ErrPacked))
	}
	r.at += n
}

// number gives the number that the next n bits say.
func (r *bitReader) number(n int) int {
	bits := r.ahead() >> (api.MaxBits - n)
	r.skip(n)
	return bits
}

// value gives what a symbol and the bits that follow it say.
func (r *bitReader) value(symbol int, baseOf func(symbol int) (base, bits int)) int {
	base, bits := baseOf(symbol)
	return base + r.number(bits)
}

// symbol gives the next symbol of a code.
func (r *bitReader) symbol(d *decoder) int {
	bits := r.ahead()
	for l := 1; l <= api.MaxBits; l++ {
		if bits < d.ends[l] {
			r.skip(l)
			return int(d.symbols[d.shifts[l]+bits>>(api.MaxBits-l)])
		}
	}
	panic(r.fault(api.ErrPacked))
}

// codes reads the lengths of both codes.
func (r *bitReader) codes() (first, second *decoder) {
	lengths := r.lengths()
	many := countLengths(lengths[:firstSize])
	also := countLengths(lengths[firstSize:])
	if !many.code() || !also.code() && also.symbols() > 0 {
		r.from = 0
		panic(r.fault(api.ErrCodes))
	}
	return newDecoder(lengths[:firstSize], many), newDecoder(lengths[firstSize:], also)
}

// lengths reads the runs of lengths.
func (r *bitReader) lengths() bothLengths {
	var lengths bothLengths
	for done := 0; done < bothSize; {
		r.begin()
		length := r.number(runBits)
		many := r.number(runBits) + 1
		if many > bothSize-done {
			panic(r.fault(api.ErrPacked))
		}
		for range many {
			lengths[done] = length
			done++
		}
	}
	return lengths
}

// end wants nothing to be left but fewer than eight bits 0.
func (r *bitReader) end() {
	r.begin()
	if r.left() >= 8 || r.ahead() > 0 {
		panic(r.fault(api.ErrPacked))
	}
}

// decoder is a code as it is read.
type decoder struct {
	symbols [firstSize]uint16 // those with a code, in the order of their codes
	ends    perLength         // by length: the first MaxBits bits that don't begin with a code of this length or a shorter one
	shifts  perLength         // by length: how far behind a code, as a number, its symbol stands in symbols
}

// newDecoder gives the decoder of lengths of which there are so many each.
func newDecoder(lengths []int, many perLength) *decoder {
	d := &decoder{}
	next := many.first()
	at := 0
	for l := 1; l < len(many); l++ {
		d.ends[l] = (next[l] + many[l]) << (api.MaxBits - l)
		d.shifts[l] = at - next[l]
		at += many[l]
	}
	for s, l := range lengths {
		if l > 0 {
			d.symbols[d.shifts[l]+next[l]] = uint16(s)
			next[l]++
		}
	}
	return d
}
