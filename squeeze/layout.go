package squeeze

// layout is one way to write the body of a packed block.
type layout struct {
	repeats []repeat
	lengths bothLengths
	bits    int // of the whole body
}

// layoutOf gives the shortest layout of a block with these repeats.
func layoutOf(b []byte, repeats []repeat) layout {
	l := layout{repeats: repeats}
	var counts [bothSize]int
	l.each(b, func(s suffixed) {
		counts[s.symbol]++
		l.bits += s.bits
	})
	l.lengths = bestLengths(counts)
	for s, c := range counts {
		l.bits += c * l.lengths[s]
	}
	l.bits += len(l.lengths.runs()) * 2 * runBits
	return l
}

// each goes through the symbols of a block: repeats stand for the bytes that they cover.
func (l *layout) each(b []byte, do func(suffixed)) {
	at := 0
	bytesTo := func(end int) {
		for ; at < end; at++ {
			do(suffixed{symbol: int(b[at])})
		}
	}
	for _, r := range l.repeats {
		bytesTo(int(r.at))
		length := symbolFor(int(r.length), firstSize-backs, lengthBase)
		length.symbol += backs
		do(length)
		distance := symbolFor(int(r.back), secondSize, distanceBase)
		distance.symbol += firstSize
		do(distance)
		at += int(r.length)
	}
	bytesTo(len(b))
}

// body gives the body of a block's packed form.
func (l *layout) body(b []byte) []byte {
	w := &bitWriter{out: make([]byte, 0, bytesOf(l.bits))}
	for _, r := range l.lengths.runs() {
		w.put(uint32(r.length), runBits)
		w.put(uint32(r.many-1), runBits)
	}
	codes := l.lengths.codes()
	l.each(b, func(s suffixed) {
		w.put(codes[s.symbol], l.lengths[s.symbol])
		w.put(uint32(s.rest), s.bits)
	})
	w.fill()
	return w.out
}

// bytesOf tells how many bytes so many bits fill.
func bytesOf(bits int) int { return (bits + 7) / 8 }

// bitWriter lays bits one behind the other, the highest bit of each byte first.
type bitWriter struct {
	out  []byte
	held uint64 // its lowest bits are those that fill no byte yet
	many int    // how many these are
}

// put writes the lowest n bits of a number, the highest one first.
func (w *bitWriter) put(number uint32, n int) {
	w.held = w.held<<n | uint64(number)
	w.many += n
	for w.many >= 8 {
		w.many -= 8
		w.out = append(w.out, byte(w.held>>w.many))
	}
}

// fill writes bits 0 up to a whole byte.
func (w *bitWriter) fill() {
	if w.many > 0 {
		w.put(0, 8-w.many)
	}
}
