package slab

import (
	"math/bits"

	"sallyport/api"
)

// wordBits is how many blocks one word of a set tells of.
const wordBits = 64

// freeSet is which blocks are free, one bit a block. It is an array as long as the greatest slab needs, so that it is copied along with its slab and never grows.
type freeSet [(api.MaxItems + wordBits - 1) / wordBits]uint64

// mask is the block's bit in its word.
func mask(block int) uint64 {
	return 1 << (block % wordBits)
}

func (f *freeSet) add(block int) {
	f[block/wordBits] |= mask(block)
}

func (f *freeSet) remove(block int) {
	f[block/wordBits] &^= mask(block)
}

func (f *freeSet) has(block int) bool {
	return f[block/wordBits]&mask(block) != 0
}

// least is the free block with the least number, if one is free.
func (f *freeSet) least() (int, bool) {
	for i, word := range f {
		if word != 0 {
			return i*wordBits + bits.TrailingZeros64(word), true
		}
	}
	return 0, false
}

func (f *freeSet) count() int {
	n := 0
	for _, word := range f {
		n += bits.OnesCount64(word)
	}
	return n
}
