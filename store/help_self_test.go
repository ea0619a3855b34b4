package store_test

import (
	"testing"
)

// What the other tests look through shows each store as it was laid, wherever the hand is: else they would tell nothing.
func TestLaidIsWritten(t *testing.T) {
	for _, slots := range []string{
		"-",
		"- -",
		"a b",
		"a* b",
		"a b*",
		"a* b*",
		"a< b>",
		"a<* b>*",
		"a! b!*",
		"- a* - b",
		"a* - b<* - c>* d<",
		"a b* c> d>* e< f<* - -",
	} {
		x := laid(t, slots, 0)
		for hand := range len(x.Keys()) {
			wantWritten(t, laid(t, slots, hand), slots, hand)
		}
	}
}
