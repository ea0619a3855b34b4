package digest

import (
	"math/bits"
)

// blockBytes is how many bytes of a message are turned at once.
const blockBytes = 64

// block is the bytes of one turn.
type block [blockBytes]byte

// words are a to h of the chapter, in this order.
type words [8]uint32

// firstWords are the first 32 bits of the fractional parts of the square roots of the first eight primes.
var firstWords = words{
	0x6a09e667, 0xbb67ae85, 0x3c6ef372, 0xa54ff53a, 0x510e527f, 0x9b05688c, 0x1f83d9ab, 0x5be0cd19,
}

// roundWords are k(t) of the chapter: the first 32 bits of the fractional parts of the cube roots of the first 64 primes.
var roundWords = [64]uint32{
	0x428a2f98, 0x71374491, 0xb5c0fbcf, 0xe9b5dba5, 0x3956c25b, 0x59f111f1, 0x923f82a4, 0xab1c5ed5,
	0xd807aa98, 0x12835b01, 0x243185be, 0x550c7dc3, 0x72be5d74, 0x80deb1fe, 0x9bdc06a7, 0xc19bf174,
	0xe49b69c1, 0xefbe4786, 0x0fc19dc6, 0x240ca1cc, 0x2de92c6f, 0x4a7484aa, 0x5cb0a9dc, 0x76f988da,
	0x983e5152, 0xa831c66d, 0xb00327c8, 0xbf597fc7, 0xc6e00bf3, 0xd5a79147, 0x06ca6351, 0x14292967,
	0x27b70a85, 0x2e1b2138, 0x4d2c6dfc, 0x53380d13, 0x650a7354, 0x766a0abb, 0x81c2c92e, 0x92722c85,
	0xa2bfe8a1, 0xa81a664b, 0xc24b8b70, 0xc76c51a3, 0xd192e819, 0xd6990624, 0xf40e3585, 0x106aa070,
	0x19a4c116, 0x1e376c08, 0x2748774c, 0x34b0bcb5, 0x391c0cb3, 0x4ed8aa4a, 0x5b9cca4f, 0x682e6ff3,
	0x748f82ee, 0x78a5636f, 0x84c87814, 0x8cc70208, 0x90befffa, 0xa4506ceb, 0xbef9a3f7, 0xc67178f2,
}

// turn adds what the block's rounds make of the words to the words as they were ahead of it, which is why no block can be turned back.
func (w *words) turn(b *block) {
	drawn := draw(b)
	turned := *w
	for t := range drawn {
		turned.round(t, drawn[t]+roundWords[t])
	}
	for i := range w {
		w[i] += turned[i]
	}
}

// round leaves the words where they are and turns their names by one place instead: only d and h get what is new, as the next round's e and a. Behind 64 rounds each name is back at its own place.
func (w *words) round(t int, added uint32) {
	a, b, c := w[place(0, t)], w[place(1, t)], w[place(2, t)]
	e, f, g, h := w[place(4, t)], w[place(5, t)], w[place(6, t)], w[place(7, t)]
	one := h + (right(e, 6) ^ right(e, 11) ^ right(e, 25)) + (e&f ^ ^e&g) + added
	two := (right(a, 2) ^ right(a, 13) ^ right(a, 22)) + (a&b ^ a&c ^ b&c)
	w[place(3, t)] += one
	w[place(7, t)] = one + two
}

// place is where the word stands that is the i-th by its name in round t.
func place(i, t int) int {
	return (i - t) & 7
}

// bytes are the words, the highest byte first.
func (w *words) bytes() [32]byte {
	var s [32]byte
	for i, word := range w {
		copy(s[4*i:], highestFirst(uint64(word), 4))
	}
	return s
}

// draw is w(t) of the chapter: the block's own sixteen words, and what is made of them for the later rounds.
func draw(b *block) [64]uint32 {
	var w [64]uint32
	for t := range 16 {
		w[t] = uint32(b[4*t])<<24 | uint32(b[4*t+1])<<16 | uint32(b[4*t+2])<<8 | uint32(b[4*t+3])
	}
	for t := 16; t < len(w); t++ {
		near, far := w[t-2], w[t-15]
		w[t] = (right(near, 17) ^ right(near, 19) ^ near>>10) + w[t-7] + (right(far, 7) ^ right(far, 18) ^ far>>3) + w[t-16]
	}
	return w
}

// right is x turned right by n bits: none is lost.
func right(x uint32, n int) uint32 {
	return bits.RotateLeft32(x, -n)
}
