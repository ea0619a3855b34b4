package slab_test

import (
	"bytes"
	"math"
	"slices"
	"testing"

	"sallyport/api"
	"sallyport/slab"
)

// most is the bound of all blocks together that the chapter names.
const most = 1 << 22

// made is a new slab of numbers that may be.
func made(t *testing.T, blocks, size int) *slab.Slab {
	t.Helper()
	s, e := slab.New(blocks, size)
	if e != api.OK || s == nil {
		t.Fatalf("New(%d, %d): %v, %v", blocks, size, s, e)
	}
	return s
}

// holding is a new slab with its first blocks held, each filled with bytes of its own.
func holding(t *testing.T, blocks, size, held int) *slab.Slab {
	t.Helper()
	s := made(t, blocks, size)
	for block := range held {
		wantGet(t, s, block)
		wantErrno(t, "Write", s.Write(block, 0, filling(block, size)), api.OK)
	}
	return s
}

// filling is bytes that are not 0 and tell of which block they are.
func filling(block, size int) []byte {
	b := make([]byte, size)
	for i := range b {
		b[i] = byte(1 + (block*31+i*7)%251)
	}
	return b
}

func wantErrno(t *testing.T, what string, got, want api.Errno) {
	t.Helper()
	if got != want {
		t.Errorf("%s: error %d, want %d", what, got, want)
	}
}

func wantGet(t *testing.T, s *slab.Slab, block int) {
	t.Helper()
	if got, e := s.Get(); got != block || e != api.OK {
		t.Errorf("Get: %d, error %d, want %d", got, e, block)
	}
}

func wantGetRefused(t *testing.T, s *slab.Slab, want api.Errno) {
	t.Helper()
	if got, e := s.Get(); got != 0 || e != want {
		t.Errorf("Get: %d, error %d, want 0, error %d", got, e, want)
	}
}

func wantRead(t *testing.T, s *slab.Slab, block, at, n int, want string) {
	t.Helper()
	if got, e := s.Read(block, at, n); string(got) != want || e != api.OK {
		t.Errorf("Read(%d, %d, %d): %q, error %d, want %q", block, at, n, got, e, want)
	}
}

func wantReadRefused(t *testing.T, s *slab.Slab, block, at, n int, want api.Errno) {
	t.Helper()
	if got, e := s.Read(block, at, n); len(got) != 0 || e != want {
		t.Errorf("Read(%d, %d, %d): %q, error %d, want nothing, error %d", block, at, n, got, e, want)
	}
}

// wantHeld holds Used and Held against which blocks should be held.
func wantHeld(t *testing.T, s *slab.Slab, want ...int) {
	t.Helper()
	if got := s.Held(); !slices.Equal(got, want) {
		t.Errorf("Held: %v, want %v", got, want)
	}
	if got := s.Used(); got != len(want) {
		t.Errorf("Used: %d, want %d", got, len(want))
	}
}

// upTo is the numbers from 0 on, as many as n.
func upTo(n int) []int {
	list := make([]int, n)
	for i := range list {
		list[i] = i
	}
	return list
}

// 2.1, 2.2, 2.4: the chapter's example.
func TestExample(t *testing.T) {
	s := made(t, 2, 4)
	wantGet(t, s, 0)
	wantErrno(t, "Write", s.Write(0, 1, []byte("ab")), api.OK)
	wantRead(t, s, 0, 0, 4, "\x00ab\x00")
	wantGet(t, s, 1)
	wantGetRefused(t, s, api.ErrFull)
	wantErrno(t, "Put", s.Put(0), api.OK)
	wantGet(t, s, 0)
	wantRead(t, s, 0, 0, 4, "\x00\x00\x00\x00")
	wantReadRefused(t, s, 0, 2, 3, api.ErrArg)
}

// news are numbers that a slab may have: 0, at their limits, beside them, and both together at their bound.
var news = []struct{ blocks, size int }{
	{0, 0}, {0, 1}, {1, 0}, {1, 1}, {2, 3},
	{0, api.MaxBytes}, {api.MaxItems, 0}, {0, api.MaxBytes - 1}, {api.MaxItems - 1, 0},
	{1, api.MaxBytes}, {1, api.MaxBytes - 1}, {api.MaxItems, 1}, {api.MaxItems - 1, 1},
	{most / api.MaxBytes, api.MaxBytes}, {api.MaxItems, most / api.MaxItems},
	{most / api.MaxBytes, api.MaxBytes - 1}, {api.MaxItems - 1, most / api.MaxItems},
	{2048, 2048}, {2047, 2049}, {128, 32768}, {3, 65536}, {65, 64527},
}

// 2.1: numbers that may be; all blocks are free, and there are as many as were asked for, each of the size.
func TestNew(t *testing.T) {
	for _, c := range news {
		s := made(t, c.blocks, c.size)
		wantHeld(t, s)
		for block := range c.blocks {
			wantGet(t, s, block)
		}
		wantGetRefused(t, s, api.ErrFull)
		wantHeld(t, s, upTo(c.blocks)...)
		if c.blocks == 0 {
			continue
		}
		last := c.blocks - 1
		wantRead(t, s, last, 0, c.size, string(make([]byte, c.size)))
		wantReadRefused(t, s, last, 0, c.size+1, api.ErrArg)
		wantReadRefused(t, s, c.blocks, 0, 0, api.ErrNone)
	}
}

// 2.1, P1: numbers that may not be; with an error there is no slab.
func TestNewRefused(t *testing.T) {
	for _, c := range []struct{ blocks, size int }{
		{-1, 0}, {0, -1}, {-1, -1}, {-2, 4}, {4, -2}, {-1, api.MaxBytes}, {api.MaxItems, -1},
		{api.MaxItems + 1, 0}, {api.MaxItems + 1, 1}, {0, api.MaxBytes + 1}, {1, api.MaxBytes + 1},
		{api.MaxItems, api.MaxBytes}, {most/api.MaxBytes + 1, api.MaxBytes}, {api.MaxItems, most/api.MaxItems + 1},
		{2048, 2049}, {2049, 2048}, {1985, 2113}, {65, 64528}, {2, most / 2}, {most, 1},
		{math.MaxInt, math.MaxInt}, {math.MaxInt, 0}, {0, math.MaxInt}, {math.MaxInt, 2}, {2, math.MaxInt},
		{math.MinInt, math.MinInt}, {math.MinInt, 0}, {0, math.MinInt}, {math.MinInt, 2}, {2, math.MinInt},
		{math.MinInt, -1}, {-1, math.MinInt}, {1 << 32, 1 << 32},
	} {
		if s, e := slab.New(c.blocks, c.size); s != nil || e != api.ErrArg {
			t.Errorf("New(%d, %d): %v, error %d, want nil, ErrArg", c.blocks, c.size, s, e)
		}
	}
}

// 2.1: Get is the least free block, whatever was put before, and beyond the end of a word of blocks too.
func TestGetLeast(t *testing.T) {
	const blocks = 200
	s := holding(t, blocks, 1, blocks)
	for _, block := range []int{199, 64, 128, 63, 127, 0, 65, 1} {
		wantErrno(t, "Put", s.Put(block), api.OK)
	}
	if s.Used() != blocks-8 {
		t.Errorf("Used: %d, want %d", s.Used(), blocks-8)
	}
	for _, block := range []int{0, 1, 63, 64, 65, 127, 128, 199} {
		if slices.Contains(s.Held(), block) {
			t.Errorf("Held: has %d, which was put", block)
		}
		wantGet(t, s, block)
	}
	wantGetRefused(t, s, api.ErrFull)
	wantHeld(t, s, upTo(blocks)...)
}

// 2.1: a block that was put is the least free one again only when it is.
func TestPutAndGet(t *testing.T) {
	s := made(t, 4, 2)
	wantGet(t, s, 0)
	wantGet(t, s, 1)
	wantGet(t, s, 2)
	wantErrno(t, "Put(1)", s.Put(1), api.OK)
	wantHeld(t, s, 0, 2)
	wantGet(t, s, 1)
	wantGet(t, s, 3)
	wantErrno(t, "Put(3)", s.Put(3), api.OK)
	wantErrno(t, "Put(0)", s.Put(0), api.OK)
	wantHeld(t, s, 1, 2)
	wantErrno(t, "Put(2)", s.Put(2), api.OK)
	wantErrno(t, "Put(1)", s.Put(1), api.OK)
	wantHeld(t, s)
	wantGet(t, s, 0)
}

// notHeld are numbers of which none is a held block where 0 and 2 of five are.
var notHeld = []int{math.MinInt, math.MinInt32, -64, -2, -1, 1, 3, 4, 5, 6, 63, 64, 66, 128, api.MaxItems - 1, api.MaxItems, api.MaxItems + 2, math.MaxInt32, math.MaxInt}

// twoOfFive is a slab of five blocks of 3 of which 0 and 2 are held.
func twoOfFive(t *testing.T) *slab.Slab {
	t.Helper()
	s := holding(t, 5, 3, 3)
	wantErrno(t, "Put(1)", s.Put(1), api.OK)
	return s
}

// wantTwoOfFive holds a slab against what twoOfFive made.
func wantTwoOfFive(t *testing.T, s *slab.Slab) {
	t.Helper()
	wantHeld(t, s, 0, 2)
	wantRead(t, s, 0, 0, 3, string(filling(0, 3)))
	wantRead(t, s, 2, 0, 3, string(filling(2, 3)))
	rest := s.Clone()
	for _, block := range []int{1, 3, 4} {
		wantGet(t, rest, block)
		wantRead(t, rest, block, 0, 3, "\x00\x00\x00")
	}
	wantGetRefused(t, rest, api.ErrFull)
}

// 2.1, 2.2, P2: a block that is not held, or that there is not: ErrNone, and nothing is changed.
func TestNotHeld(t *testing.T) {
	s := twoOfFive(t)
	for _, block := range notHeld {
		wantErrno(t, "Put", s.Put(block), api.ErrNone)
		wantErrno(t, "Write", s.Write(block, 0, []byte("abc")), api.ErrNone)
		wantErrno(t, "Write of nothing", s.Write(block, 0, nil), api.ErrNone)
		wantReadRefused(t, s, block, 0, 3, api.ErrNone)
		wantReadRefused(t, s, block, 0, 0, api.ErrNone)
		wantTwoOfFive(t, s)
	}
}

// 2.1: what was put is not held any more.
func TestPutTwice(t *testing.T) {
	s := twoOfFive(t)
	wantErrno(t, "Put", s.Put(2), api.OK)
	wantErrno(t, "Put again", s.Put(2), api.ErrNone)
	wantErrno(t, "Write", s.Write(2, 0, []byte("a")), api.ErrNone)
	wantReadRefused(t, s, 2, 0, 1, api.ErrNone)
	wantHeld(t, s, 0)
}

// 2.2, P1: where the block is not held and the range is not within it, ErrNone is named first.
func TestNoneBeforeArg(t *testing.T) {
	s := twoOfFive(t)
	for _, block := range notHeld {
		for _, at := range []int{math.MinInt, -1, 4, math.MaxInt} {
			wantErrno(t, "Write", s.Write(block, at, []byte("abcd")), api.ErrNone)
			wantReadRefused(t, s, block, at, -1, api.ErrNone)
			wantReadRefused(t, s, block, at, 4, api.ErrNone)
			wantReadRefused(t, s, block, at, math.MaxInt, api.ErrNone)
		}
	}
	wantTwoOfFive(t, s)
}

// ranges are places and lengths in a block of 3, and whether they are within it.
var ranges = []struct {
	at, n int
	in    bool
}{
	{0, 0, true}, {0, 1, true}, {0, 2, true}, {0, 3, true}, {0, 4, false}, {0, 15, false},
	{1, 0, true}, {1, 1, true}, {1, 2, true}, {1, 3, false}, {1, 4, false},
	{2, 0, true}, {2, 1, true}, {2, 2, false}, {2, 3, false},
	{3, 0, true}, {3, 1, false}, {3, 3, false}, {4, 0, false}, {4, 1, false}, {12, 3, false}, {15, 0, false},
	{-1, 0, false}, {-1, 1, false}, {-1, 2, false}, {-1, 4, false}, {-3, 3, false},
	{math.MinInt, 0, false}, {math.MinInt, 3, false}, {math.MinInt + 1, 4, false},
	{math.MaxInt, 0, false}, {math.MaxInt, 1, false}, {math.MaxInt, 3, false}, {math.MaxInt - 1, 3, false},
}

// 2.2, P2: a Write up to the block's end is within it; beyond it nothing is written.
func TestWriteRange(t *testing.T) {
	for _, c := range ranges {
		s := twoOfFive(t)
		b := bytes.Repeat([]byte{255}, c.n)
		if !c.in {
			wantErrno(t, "Write", s.Write(2, c.at, b), api.ErrArg)
			wantTwoOfFive(t, s)
			continue
		}
		wantErrno(t, "Write", s.Write(2, c.at, b), api.OK)
		want := filling(2, 3)
		copy(want[c.at:], b)
		wantRead(t, s, 2, 0, 3, string(want))
	}
}

// 2.2: a Read up to the block's end is within it; beyond it nothing is read.
func TestReadRange(t *testing.T) {
	s := twoOfFive(t)
	all := filling(2, 3)
	for _, c := range ranges {
		if c.in {
			wantRead(t, s, 2, c.at, c.n, string(all[c.at:c.at+c.n]))
		} else {
			wantReadRefused(t, s, 2, c.at, c.n, api.ErrArg)
		}
	}
	wantTwoOfFive(t, s)
}

// 2.2, P1: lengths that only Read can be given: below 0 and very great ones.
func TestReadWrongLength(t *testing.T) {
	s := twoOfFive(t)
	for _, at := range []int{math.MinInt, -1, 0, 1, 2, 3, 4, math.MaxInt - 1, math.MaxInt} {
		for _, n := range []int{math.MinInt, math.MinInt + 1, math.MinInt32, -4, -3, -1, math.MaxInt - 3, math.MaxInt - 1, math.MaxInt} {
			wantReadRefused(t, s, 2, at, n, api.ErrArg)
		}
	}
	wantTwoOfFive(t, s)
}

// 2.2: a Write of nothing changes nothing, be the list nil or empty.
func TestWriteNothing(t *testing.T) {
	s := twoOfFive(t)
	for at := range 4 {
		wantErrno(t, "Write of nil", s.Write(2, at, nil), api.OK)
		wantErrno(t, "Write of an empty list", s.Write(2, at, []byte{}), api.OK)
	}
	wantErrno(t, "Write of nil beyond the end", s.Write(2, 4, nil), api.ErrArg)
	wantTwoOfFive(t, s)
}

// 2.1, 2.2: blocks of size 0 are blocks, of which there is nothing to write or read.
func TestSizeZero(t *testing.T) {
	s := made(t, 2, 0)
	wantGet(t, s, 0)
	wantErrno(t, "Write of nothing", s.Write(0, 0, nil), api.OK)
	wantErrno(t, "Write", s.Write(0, 0, []byte("a")), api.ErrArg)
	wantErrno(t, "Write of nothing beyond the end", s.Write(0, 1, nil), api.ErrArg)
	wantRead(t, s, 0, 0, 0, "")
	wantReadRefused(t, s, 0, 0, 1, api.ErrArg)
	wantReadRefused(t, s, 1, 0, 0, api.ErrNone)
	wantGet(t, s, 1)
	wantErrno(t, "Put", s.Put(0), api.OK)
	wantHeld(t, s, 1)
	wantGet(t, s, 0)
}

// 2.1: a slab without blocks is a slab.
func TestNoBlocks(t *testing.T) {
	s := made(t, 0, 4)
	wantGetRefused(t, s, api.ErrFull)
	wantErrno(t, "Put", s.Put(0), api.ErrNone)
	wantErrno(t, "Write", s.Write(0, 0, nil), api.ErrNone)
	wantReadRefused(t, s, 0, 0, 0, api.ErrNone)
	wantHeld(t, s)
	c := s.Clone()
	if c == nil || c == s {
		t.Fatal("Clone of a slab without blocks: no slab of its own")
	}
	wantGetRefused(t, c, api.ErrFull)
}

// 2.3: what is written into one block, up to both its ends, changes no other one.
func TestApart(t *testing.T) {
	const blocks, size = 70, 5
	s := holding(t, blocks, size, blocks)
	for block := range blocks {
		want := bytes.Repeat([]byte{byte(block)}, size)
		wantErrno(t, "Write", s.Write(block, 0, want), api.OK)
		wantRead(t, s, block, 0, size, string(want))
		wantErrno(t, "Write", s.Write(block, 0, filling(block, size)), api.OK)
		for other := range blocks {
			wantRead(t, s, other, 0, size, string(filling(other, size)))
		}
	}
}

// 2.3: putting and getting one block changes no other one.
func TestPutApart(t *testing.T) {
	const blocks, size = 70, 5
	for block := range blocks {
		s := holding(t, blocks, size, blocks)
		wantErrno(t, "Put", s.Put(block), api.OK)
		wantGet(t, s, block)
		for other := range blocks {
			want := filling(other, size)
			if other == block {
				clear(want)
			}
			wantRead(t, s, other, 0, size, string(want))
		}
	}
}

// 2.4: nothing of who had a block is read by who gets it next, at every place of it, each time anew.
func TestClean(t *testing.T) {
	const blocks, size = 66, 9
	for range 3 {
		s := holding(t, blocks, size, blocks)
		for block := range blocks {
			wantErrno(t, "Put", s.Put(block), api.OK)
		}
		wantErrno(t, "Write into a free block", s.Write(0, 0, filling(0, size)), api.ErrNone)
		for block := range blocks {
			wantGet(t, s, block)
			wantRead(t, s, block, 0, size, string(make([]byte, size)))
		}
	}
}

// 2.4: a block of the greatest size is clean to its last byte, and so is that of a clone.
func TestCleanGreatest(t *testing.T) {
	s := holding(t, 2, api.MaxBytes, 2)
	wantErrno(t, "Put", s.Put(1), api.OK)
	c := s.Clone()
	for _, each := range []*slab.Slab{s, c} {
		wantGet(t, each, 1)
		wantRead(t, each, 1, 0, api.MaxBytes, string(make([]byte, api.MaxBytes)))
		wantRead(t, each, 0, 0, api.MaxBytes, string(filling(0, api.MaxBytes)))
	}
}

// 2.5, P2: a Get beyond the last block is refused again and again, and changes nothing.
func TestFull(t *testing.T) {
	s := holding(t, 3, 2, 3)
	for range 5 {
		wantGetRefused(t, s, api.ErrFull)
		wantHeld(t, s, 0, 1, 2)
		for block := range 3 {
			wantRead(t, s, block, 0, 2, string(filling(block, 2)))
		}
	}
	wantErrno(t, "Put", s.Put(1), api.OK)
	wantGet(t, s, 1)
	wantGetRefused(t, s, api.ErrFull)
}

// Rules 4: what is handed in is neither changed nor kept.
func TestInputNotKept(t *testing.T) {
	s := made(t, 2, 4)
	wantGet(t, s, 0)
	wantGet(t, s, 1)
	room := []byte("xxabcyy")
	b := room[2:5]
	wantErrno(t, "Write", s.Write(0, 1, b), api.OK)
	wantErrno(t, "Write", s.Write(1, 0, b), api.OK)
	if string(room) != "xxabcyy" {
		t.Errorf("Write changed what was handed in: %q", room)
	}
	copy(room, "-------")
	wantRead(t, s, 0, 0, 4, "\x00abc")
	wantErrno(t, "Write", s.Write(0, 0, []byte("1234")), api.OK)
	wantErrno(t, "Put", s.Put(1), api.OK)
	if string(room) != "-------" {
		t.Errorf("a later call changed what was handed in: %q", room)
	}
}

// Rules 4: what is handed out is the caller's own, to the end of its capacity.
func TestOutputIsCallersOwn(t *testing.T) {
	s := holding(t, 2, 4, 2)
	b, _ := s.Read(0, 0, 4)
	again, _ := s.Read(0, 0, 4)
	b = b[:cap(b)]
	for i := range b {
		b[i] = 0
	}
	b = append(b[:0], "------------"...)
	if string(again) != string(filling(0, 4)) {
		t.Error("two answers of Read share memory")
	}
	wantRead(t, s, 0, 0, 4, string(filling(0, 4)))
	wantRead(t, s, 1, 0, 4, string(filling(1, 4)))
	wantErrno(t, "Write", s.Write(0, 0, []byte("1234")), api.OK)
	wantErrno(t, "Put", s.Put(0), api.OK)
	if string(b) != "------------" || string(again) != string(filling(0, 4)) {
		t.Error("a later call changed what was handed out")
	}
}

// Rules 4: the list of Held is the caller's own.
func TestHeldIsCallersOwn(t *testing.T) {
	s := twoOfFive(t)
	held := s.Held()
	held[0], held[1] = 3, 4
	_ = append(held[:0], 1, 1, 1)
	wantTwoOfFive(t, s)
	held = s.Held()
	wantGet(t, s, 1)
	wantErrno(t, "Put", s.Put(0), api.OK)
	if !slices.Equal(held, []int{0, 2}) {
		t.Errorf("a later call changed what Held told: %v", held)
	}
}

// 2.2: a clone stands where the slab does, and goes its own way from there, as the slab does.
func TestClone(t *testing.T) {
	s := twoOfFive(t)
	c := s.Clone()
	wantTwoOfFive(t, c)
	changeAll(t, c)
	wantTwoOfFive(t, s)
	c = s.Clone()
	changeAll(t, s)
	wantTwoOfFive(t, c)
	wantHeld(t, s, 0, 1, 3, 4)
}

// changeAll changes what twoOfFive made by every call that changes anything.
func changeAll(t *testing.T, s *slab.Slab) {
	t.Helper()
	wantErrno(t, "Write", s.Write(0, 0, []byte("xyz")), api.OK)
	wantErrno(t, "Put", s.Put(2), api.OK)
	for _, block := range []int{1, 2, 3, 4} {
		wantGet(t, s, block)
		wantErrno(t, "Write", s.Write(block, 0, []byte("uvw")), api.OK)
	}
	wantErrno(t, "Put", s.Put(2), api.OK)
}

// 2.2: a clone has the slab's numbers, at their limits too.
func TestCloneNumbers(t *testing.T) {
	for _, c := range news {
		s := made(t, c.blocks, c.size).Clone()
		if s == nil {
			t.Fatalf("Clone of New(%d, %d): nil", c.blocks, c.size)
		}
		for block := range c.blocks {
			wantGet(t, s, block)
		}
		wantGetRefused(t, s, api.ErrFull)
		if c.blocks > 0 {
			wantRead(t, s, c.blocks-1, 0, c.size, string(make([]byte, c.size)))
			wantReadRefused(t, s, 0, c.size, 1, api.ErrArg)
		}
	}
}

// Rules 2, P1: a slab that no call made: ErrNil before all else, zero values, and nothing is done.
func TestUnmade(t *testing.T) {
	var none *slab.Slab
	for _, s := range []*slab.Slab{none, {}, new(slab.Slab)} {
		for range 2 {
			wantGetRefused(t, s, api.ErrNil)
			for _, block := range append(notHeld, 0, 2) {
				wantErrno(t, "Put", s.Put(block), api.ErrNil)
				wantErrno(t, "Write", s.Write(block, 0, nil), api.ErrNil)
				wantErrno(t, "Write", s.Write(block, -1, []byte("a")), api.ErrNil)
				wantReadRefused(t, s, block, 0, 0, api.ErrNil)
				wantReadRefused(t, s, block, -1, math.MaxInt, api.ErrNil)
			}
			wantHeld(t, s)
			if c := s.Clone(); c != nil {
				t.Errorf("Clone of a slab that no call made: %v", c)
			}
		}
	}
}

// "All its memory is made once, by New": the calls that change a slab make none.
func TestMemoryMadeOnce(t *testing.T) {
	s := made(t, 100, 64)
	b := filling(1, 64)
	if n := testing.AllocsPerRun(50, func() {
		for range 101 {
			s.Get()
		}
		for block := range 100 {
			s.Write(block, 0, b)
		}
		for block := range 101 {
			s.Put(block)
		}
		s.Used()
	}); n != 0 {
		t.Errorf("Get, Write, Put and Used made memory %v times a run", n)
	}
}
