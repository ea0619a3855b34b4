package slab_test

import (
	"bytes"
	"maps"
	"math/rand"
	"slices"
	"testing"

	"sallyport/api"
	"sallyport/slab"
)

// model is what the chapter says, said plainly: the bytes of each block that is held.
type model struct {
	blocks, size int
	held         map[int][]byte
	got, put     int
}

func (m *model) clone() *model {
	c := *m
	c.held = map[int][]byte{}
	for block, b := range m.held {
		c.held[block] = bytes.Clone(b)
	}
	return &c
}

func (m *model) get() (int, api.Errno) {
	for block := range m.blocks {
		if _, held := m.held[block]; !held {
			m.held[block] = make([]byte, m.size)
			m.got++
			return block, api.OK
		}
	}
	return 0, api.ErrFull
}

func (m *model) free(block int) api.Errno {
	if _, held := m.held[block]; !held {
		return api.ErrNone
	}
	delete(m.held, block)
	m.put++
	return api.OK
}

// at is the piece of a block that a range means.
func (m *model) at(block, at, n int) ([]byte, api.Errno) {
	b, held := m.held[block]
	if !held {
		return nil, api.ErrNone
	}
	if at < 0 || n < 0 || at+n > m.size {
		return nil, api.ErrArg
	}
	return b[at : at+n], api.OK
}

// pair is a slab beside its model.
type pair struct {
	s     *slab.Slab
	m     *model
	calls int
}

func newPair(t *testing.T, blocks, size int) *pair {
	t.Helper()
	return &pair{s: made(t, blocks, size), m: &model{blocks: blocks, size: size, held: map[int][]byte{}}}
}

// clone goes on with the slab's clone, so that one that stands elsewhere is found out.
func (p *pair) clone() *pair {
	return &pair{s: p.s.Clone(), m: p.m.clone(), calls: p.calls}
}

func (p *pair) doGet(t *testing.T) {
	t.Helper()
	block, e := p.s.Get()
	if wantBlock, want := p.m.get(); block != wantBlock || e != want {
		t.Errorf("Get: %d, error %d, want %d, error %d", block, e, wantBlock, want)
	}
}

func (p *pair) doPut(t *testing.T, block int) {
	t.Helper()
	wantErrno(t, "Put", p.s.Put(block), p.m.free(block))
}

// doWrite writes bytes that no other call writes, as far as a byte can tell.
func (p *pair) doWrite(t *testing.T, block, at, n int) {
	t.Helper()
	p.calls++
	b := filling(p.calls, n)
	piece, want := p.m.at(block, at, n)
	copy(piece, b)
	wantErrno(t, "Write", p.s.Write(block, at, b), want)
}

func (p *pair) doRead(t *testing.T, block, at, n int) {
	t.Helper()
	piece, want := p.m.at(block, at, n)
	if got, e := p.s.Read(block, at, n); !bytes.Equal(got, piece) || e != want {
		t.Errorf("Read(%d, %d, %d): %v, error %d, want %v, error %d", block, at, n, got, e, piece, want)
	}
}

// check holds all that a slab tells against the model, and 2.5's number of what is held.
func (p *pair) check(t *testing.T) {
	t.Helper()
	wantHeld(t, p.s, slices.Sorted(maps.Keys(p.m.held))...)
	if p.s.Used() != p.m.got-p.m.put {
		t.Errorf("Used: %d; %d were got, %d were put", p.s.Used(), p.m.got, p.m.put)
	}
	for block := range p.m.blocks {
		p.doRead(t, block, 0, p.m.size)
	}
}

// do does the k-th of the short calls on a slab.
func (p *pair) do(t *testing.T, k int) {
	t.Helper()
	switch {
	case k == 0:
		p.doGet(t)
	case k <= 4:
		p.doPut(t, k-2)
	default:
		p.doWrite(t, k%3, k/3-2, k%2+1)
	}
}

// 2.1 to 2.5: all short calls, one behind the other in each order, on small slabs; on a clone each, so that Clone is looked at too.
func TestAllShortRuns(t *testing.T) {
	var walk func(p *pair, depth int)
	walk = func(p *pair, depth int) {
		p.check(t)
		if depth == 0 || t.Failed() {
			return
		}
		for k := range 14 {
			next := p.clone()
			next.do(t, k)
			walk(next, depth-1)
		}
	}
	for blocks := range 4 {
		for size := range 3 {
			walk(newPair(t, blocks, size), 4)
		}
	}
}

// 2.1 to 2.5: long runs on slabs of all sorts of numbers, so that they are full and empty many times.
func TestLongRuns(t *testing.T) {
	for i, c := range []struct{ blocks, size int }{{1, 1}, {2, 3}, {5, 0}, {63, 2}, {64, 3}, {65, 4}, {130, 7}} {
		draw := rand.New(rand.NewSource(int64(i)))
		p := newPair(t, c.blocks, c.size)
		for step := range 3000 {
			someCall(t, p, draw, step/500%2)
			p.check(t)
			if t.Failed() {
				return
			}
		}
	}
}

// someCall fills the slab where lean is 0 and empties it where lean is 1, more often than not.
func someCall(t *testing.T, p *pair, draw *rand.Rand, lean int) {
	t.Helper()
	block := draw.Intn(p.m.blocks+2) - 1
	at, n := draw.Intn(p.m.size+3)-1, draw.Intn(p.m.size+3)
	switch k := draw.Intn(20); {
	case k == 0:
		*p = *p.clone()
	case k < 8+lean*3:
		p.doWrite(t, block, at, n)
	case k < 12:
		p.doRead(t, block, at, n-1)
	case k < 14+lean*5:
		p.doPut(t, block)
	default:
		p.doGet(t)
	}
}
