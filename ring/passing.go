package ring

// passing is what both directions have in common: at which place of the array the next byte goes by, and how many went by.
type passing struct {
	place int
	count uint32 // its own wrap-round is the modulo 1 << 32 of Moved
}

// inward is the end at which bytes are put in.
type inward struct {
	passing
}

// outward is the end at which bytes are taken out.
type outward struct {
	passing
}

// advance goes on by n bytes. As n is at most the size, the place is beyond the array's end at most once.
func (p *passing) advance(n, size int) {
	p.place += n
	if p.place >= size {
		p.place -= size
	}
	p.count += uint32(n)
}

// pieces are where the next n bytes lie: those up to the array's end, and those that go on at its beginning.
func (p *passing) pieces(array []byte, n int) ([]byte, []byte) {
	tail := array[p.place:]
	if n <= len(tail) {
		return tail[:n], nil
	}
	return tail, array[:n-len(tail)]
}

// write puts b in; the caller knows that there is room for it.
func (w *inward) write(array, b []byte) {
	first, second := w.pieces(array, len(b))
	n := copy(first, b)
	copy(second, b[n:])
	w.advance(len(b), len(array))
}

// read tells the next n bytes, which stay; the caller knows that they are there.
func (w *outward) read(array []byte, n int) []byte {
	first, second := w.pieces(array, n)
	b := make([]byte, n)
	copied := copy(b, first)
	copy(b[copied:], second)
	return b
}
