package ring_test

import (
	"bytes"
	"math/rand"
	"testing"

	"sallyport/ring"
)

// model is what the chapter says, said plainly: all that was put in, and how much of it was taken out.
type model struct {
	size  int
	put   []byte
	taken int
}

func (m *model) length() int { return len(m.put) - m.taken }

// some is how many bytes a wish for n comes to.
func (m *model) some(n int) int { return max(0, min(n, m.length())) }

func (m *model) clone() *model {
	c := *m
	c.put = bytes.Clone(m.put)
	return &c
}

// pair is a ring beside its model, and all that came out of the ring.
type pair struct {
	r    *ring.Ring
	m    *model
	outs []byte
}

func newPair(t *testing.T, size int) *pair {
	t.Helper()
	return &pair{r: made(t, size), m: &model{size: size}}
}

// clone goes on with the ring's clone, so that one that stands elsewhere is found out.
func (p *pair) clone() *pair {
	return &pair{r: p.r.Clone(), m: p.m.clone(), outs: bytes.Clone(p.outs)}
}

// doPut puts n bytes in that tell where they stand in all that was put in.
func (p *pair) doPut(t *testing.T, n int) {
	t.Helper()
	b := count(len(p.m.put), n)
	went := min(n, p.m.size-p.m.length())
	wantInt(t, "Put", p.r.Put(b), went)
	p.m.put = append(p.m.put, b[:went]...)
}

func (p *pair) doTake(t *testing.T, n int) {
	t.Helper()
	k := p.m.some(n)
	got := p.r.Take(n)
	wantBytes(t, "Take", got, string(p.m.put[p.m.taken:p.m.taken+k]))
	p.m.taken += k
	p.outs = append(p.outs, got...)
}

func (p *pair) doDrop(t *testing.T, n int) {
	t.Helper()
	k := p.m.some(n)
	seen := p.r.Peek(n)
	wantBytes(t, "Peek", seen, string(p.m.put[p.m.taken:p.m.taken+k]))
	wantInt(t, "Drop", p.r.Drop(n), k)
	p.m.taken += k
	p.outs = append(p.outs, seen...)
}

func (p *pair) doClear() {
	p.outs = append(p.outs, p.r.Peek(p.r.Cap())...)
	p.r.Clear()
	p.m.taken = len(p.m.put)
}

// check holds 1.4 and 1.5 against the ring as it stands.
func (p *pair) check(t *testing.T) {
	t.Helper()
	length := p.m.length()
	wantSizes(t, p.r, length, p.m.size)
	wantMoved(t, p.r, len(p.m.put), p.m.taken)
	if in, out := p.r.Moved(); in-out != p.r.Len() || p.r.Len() < 0 || p.r.Len() > p.r.Cap() {
		t.Errorf("Len %d, Cap %d, Moved %d, %d", p.r.Len(), p.r.Cap(), in, out)
	}
	rest := p.r.Peek(p.m.size + 1)
	if !bytes.Equal(append(bytes.Clone(p.outs), rest...), p.m.put) {
		t.Errorf("out came %v, there are %v, in went %v", p.outs, rest, p.m.put)
	}
}

// do does the k-th of all short calls on a ring; there are as many as it has kinds times five.
func (p *pair) do(t *testing.T, k int) {
	t.Helper()
	n := k%5 - 1
	switch k / 5 {
	case 0:
		p.doPut(t, max(n, 0))
	case 1:
		p.doTake(t, n)
	case 2:
		p.doDrop(t, n)
	default:
		p.doClear()
	}
}

// 1.2 to 1.5: all short calls, one behind the other in each order, on small rings; on a clone each, so that Clone is looked at too.
func TestAllShortRuns(t *testing.T) {
	var walk func(p *pair, depth int)
	walk = func(p *pair, depth int) {
		p.check(t)
		if depth == 0 || t.Failed() {
			return
		}
		for k := range 16 {
			next := p.clone()
			next.do(t, k)
			walk(next, depth-1)
		}
	}
	for size := range 4 {
		walk(newPair(t, size), 4)
	}
}

// 1.2 to 1.5: long runs on rings of all sorts of sizes, so that the array is gone round many times.
func TestLongRuns(t *testing.T) {
	for _, size := range []int{1, 2, 3, 7, 64, 1000} {
		draw := rand.New(rand.NewSource(int64(size)))
		p := newPair(t, size)
		for range 1000 {
			n := draw.Intn(size+3) - 1
			switch draw.Intn(20) {
			case 0:
				p.doClear()
			case 1:
				p = p.clone()
			case 2, 3, 4, 5:
				p.doTake(t, n)
			case 6, 7, 8, 9:
				p.doDrop(t, n)
			default:
				p.doPut(t, max(n, 0))
			}
			p.check(t)
			if t.Failed() {
				return
			}
		}
	}
}

// 1.6: bytes that are put in and asked for by pieces are those that are at once, wherever they lie.
func TestByPiecesAndAtOnce(t *testing.T) {
	for size := range 6 {
		for place := range size + 1 {
			for n := range size + 3 {
				for cut := range n + 1 {
					piecesAgainstWhole(t, size, place, n, cut)
				}
			}
		}
	}
}

func piecesAgainstWhole(t *testing.T, size, place, n, cut int) {
	t.Helper()
	pieces, whole := made(t, size), made(t, size)
	for _, r := range []*ring.Ring{pieces, whole} {
		r.Put(make([]byte, place))
		r.Drop(place)
	}
	b := count(1, n)
	wantInt(t, "Put by pieces", pieces.Put(b[:cut])+pieces.Put(b[cut:]), whole.Put(b))
	agree(t, pieces, whole)
	pieces2, whole2 := pieces.Clone(), whole.Clone()
	wantInt(t, "Drop by pieces", pieces2.Drop(cut)+pieces2.Drop(n-cut), whole2.Drop(n))
	agree(t, pieces2, whole2)
	got := append(pieces.Take(cut), pieces.Take(n-cut)...)
	wantBytes(t, "Take by pieces", got, string(whole.Take(n)))
	agree(t, pieces, whole)
}

// agree holds two rings against each other by all that their calls tell.
func agree(t *testing.T, a, b *ring.Ring) {
	t.Helper()
	wantSizes(t, a, b.Len(), b.Cap())
	in, out := b.Moved()
	wantMoved(t, a, in, out)
	wantBytes(t, "Peek", a.Peek(a.Cap()), string(b.Peek(b.Cap())))
}
