// Package ring is layer 1: a bounded ring of bytes. See shared/doc/01-ring.md.
package ring

import (
	"sallyport/api"
)

// Ring is a queue of bytes in an array that is gone round: its memory never grows, so whoever fills it takes nothing from anybody else.
type Ring struct {
	made  bool // a size may be 0, so the array does not tell whether New was called
	array []byte
	in    inward
	out   outward
}

// New makes the whole memory of the ring at once.
func New(size int) (*Ring, api.Errno) {
	if size < 0 || size > api.MaxBytes {
		return nil, api.ErrArg
	}
	return &Ring{made: true, array: make([]byte, size)}, api.OK
}

// Put leaves to the caller what there is no room for.
func (r *Ring) Put(b []byte) int {
	if !r.isMade() {
		return 0
	}
	n := within(len(b), r.Free())
	r.in.write(r.array, b[:n])
	return n
}

// Take hands out bytes of the caller's own: their place in the array is for others from now on.
func (r *Ring) Take(n int) []byte {
	b := r.Peek(n)
	r.Drop(len(b))
	return b
}

// Peek hands out a copy, so that nobody writes into the ring by it.
func (r *Ring) Peek(n int) []byte {
	if !r.isMade() {
		return nil
	}
	return r.out.read(r.array, within(n, r.Len()))
}

// Drop is for those who have looked at the bytes by Peek.
func (r *Ring) Drop(n int) int {
	if !r.isMade() {
		return 0
	}
	n = within(n, r.Len())
	r.out.advance(n, len(r.array))
	return n
}

// Len needs no number of its own: both counts wrap round alike, and a ring never holds as much as a whole round of them.
func (r *Ring) Len() int {
	if !r.isMade() {
		return 0
	}
	return int(r.in.count - r.out.count)
}

// Free is how much the next Put takes at most.
func (r *Ring) Free() int {
	return r.Cap() - r.Len()
}

// Cap is the size that New was given.
func (r *Ring) Cap() int {
	if !r.isMade() {
		return 0
	}
	return len(r.array)
}

// Moved is how many bytes went in and out, for those who want to know whether something happened.
func (r *Ring) Moved() (int, int) {
	if !r.isMade() {
		return 0, 0
	}
	return int(r.in.count), int(r.out.count)
}

// Clear counts the bytes as taken out, so that Moved goes on telling Len.
func (r *Ring) Clear() {
	r.Drop(r.Len())
}

// Clone copies the array too: neither ring tells what becomes of the other one.
func (r *Ring) Clone() *Ring {
	if !r.isMade() {
		return nil
	}
	c := *r
	c.array = make([]byte, len(r.array))
	copy(c.array, r.array)
	return &c
}

// isMade keeps the calls from a ring that New did not make.
func (r *Ring) isMade() bool {
	return r != nil && r.made
}

// within is the number of bytes that a wish for n of them comes to where there are most.
func within(n, most int) int {
	if n < 0 {
		return 0
	}
	if n > most {
		return most
	}
	return n
}
