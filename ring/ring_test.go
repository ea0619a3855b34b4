package ring_test

import (
	"bytes"
	"math"
	"testing"

	"sallyport/api"
	"sallyport/ring"
)

// made is a new ring of a size that may be.
func made(t *testing.T, size int) *ring.Ring {
	t.Helper()
	r, e := ring.New(size)
	if e != api.OK || r == nil {
		t.Fatalf("New(%d): %v, %v", size, r, e)
	}
	return r
}

func wantBytes(t *testing.T, what string, got []byte, want string) {
	t.Helper()
	if string(got) != want {
		t.Errorf("%s: %q, want %q", what, got, want)
	}
}

func wantInt(t *testing.T, what string, got, want int) {
	t.Helper()
	if got != want {
		t.Errorf("%s: %d, want %d", what, got, want)
	}
}

func wantMoved(t *testing.T, r *ring.Ring, in, out int) {
	t.Helper()
	if i, o := r.Moved(); i != in || o != out {
		t.Errorf("Moved: %d, %d, want %d, %d", i, o, in, out)
	}
}

// wantSizes holds Len, Free and Cap against what they should be.
func wantSizes(t *testing.T, r *ring.Ring, length, size int) {
	t.Helper()
	wantInt(t, "Len", r.Len(), length)
	wantInt(t, "Free", r.Free(), size-length)
	wantInt(t, "Cap", r.Cap(), size)
}

// count is n bytes that differ from their neighbours, beginning with that of first.
func count(first, n int) []byte {
	b := make([]byte, n)
	for i := range b {
		b[i] = byte((first + i) * 7 % 251)
	}
	return b
}

// 1.1 to 1.3, the chapter's example.
func TestExample(t *testing.T) {
	r := made(t, 4)
	wantInt(t, "Put", r.Put([]byte("abcdef")), 4)
	wantBytes(t, "Take(2)", r.Take(2), "ab")
	wantInt(t, "Put", r.Put([]byte("xyz")), 2)
	wantBytes(t, "Take(9)", r.Take(9), "cdxy")
	wantMoved(t, r, 6, 6)
}

// 1.1: sizes that may be.
func TestNew(t *testing.T) {
	for _, size := range []int{0, 1, 2, 4096, api.MaxBytes - 1, api.MaxBytes} {
		r := made(t, size)
		wantSizes(t, r, 0, size)
		wantMoved(t, r, 0, 0)
		wantBytes(t, "Peek of a new ring", r.Peek(size), "")
	}
}

// 1.1, P1: sizes that may not be; with an error there is no ring.
func TestNewRefused(t *testing.T) {
	for _, size := range []int{-1, -2, math.MinInt, api.MaxBytes + 1, 1 << 32, math.MaxInt} {
		if r, e := ring.New(size); r != nil || e != api.ErrArg {
			t.Errorf("New(%d): %v, %v, want nil, ErrArg", size, r, e)
		}
	}
}

// 1.1, 1.2: a ring of size 0 is a ring, and nothing goes in.
func TestSizeZero(t *testing.T) {
	r := made(t, 0)
	for range 2 {
		wantInt(t, "Put", r.Put([]byte("a")), 0)
		wantBytes(t, "Take", r.Take(1), "")
		wantBytes(t, "Peek", r.Peek(1), "")
		wantInt(t, "Drop", r.Drop(1), 0)
		r.Clear()
		wantSizes(t, r, 0, 0)
		wantMoved(t, r, 0, 0)
	}
	c := r.Clone()
	if c == nil || c == r {
		t.Fatal("Clone of a ring of size 0: no ring of its own")
	}
	wantInt(t, "Put into the clone", c.Put([]byte("a")), 0)
	wantSizes(t, c, 0, 0)
}

// 1.1, 1.2: the greatest size, filled to the last byte, and round the end.
func TestSizeMax(t *testing.T) {
	r := made(t, api.MaxBytes)
	all := count(0, api.MaxBytes+100)
	wantInt(t, "Put of more than the size", r.Put(all), api.MaxBytes)
	wantSizes(t, r, api.MaxBytes, api.MaxBytes)
	wantInt(t, "Put into a full ring", r.Put([]byte("a")), 0)
	if !bytes.Equal(r.Take(100), all[:100]) {
		t.Error("Take: other bytes than were put")
	}
	wantInt(t, "Put of the rest", r.Put(all[api.MaxBytes:]), 100)
	if !bytes.Equal(r.Take(math.MaxInt), all[100:]) {
		t.Error("Take round the end: other bytes than were put")
	}
	wantMoved(t, r, api.MaxBytes+100, api.MaxBytes+100)
}

// 1.2: Put takes the first bytes that there is room for, behind those that are there.
func TestPut(t *testing.T) {
	r := made(t, 5)
	wantInt(t, "Put of nil", r.Put(nil), 0)
	wantInt(t, "Put of nothing", r.Put([]byte{}), 0)
	wantInt(t, "Put", r.Put([]byte("ab")), 2)
	wantSizes(t, r, 2, 5)
	wantInt(t, "Put of as much as there is room for", r.Put([]byte("cde")), 3)
	wantInt(t, "Put into a full ring", r.Put([]byte("f")), 0)
	wantMoved(t, r, 5, 0)
	wantSizes(t, r, 5, 5)
	wantBytes(t, "Peek", r.Peek(5), "abcde")
	wantInt(t, "Drop", r.Drop(1), 1)
	wantInt(t, "Put of more than there is room for", r.Put([]byte("ghi")), 1)
	wantBytes(t, "Peek", r.Peek(5), "bcdeg")
}

// asks are numbers of bytes that may be asked for, and what comes of them where there are three.
var asks = []struct{ n, got int }{{math.MinInt, 0}, {-3, 0}, {-1, 0}, {0, 0}, {1, 1}, {2, 2}, {3, 3}, {4, 3}, {5, 3}, {math.MaxInt, 3}}

// full3 is a ring of 4 with three bytes that begin at a place.
func full3(t *testing.T, place int) *ring.Ring {
	t.Helper()
	r := made(t, 4)
	r.Put(make([]byte, place))
	r.Drop(place)
	wantInt(t, "Put", r.Put([]byte("abc")), 3)
	return r
}

// 1.2: Take, at every place of the array.
func TestTake(t *testing.T) {
	for place := range 5 {
		for _, a := range asks {
			r := full3(t, place)
			wantBytes(t, "Take", r.Take(a.n), "abc"[:a.got])
			wantSizes(t, r, 3-a.got, 4)
			wantMoved(t, r, place+3, place+a.got)
			wantBytes(t, "what is left", r.Take(4), "abc"[a.got:])
		}
	}
}

// 1.2: Peek tells what Take would, and nothing changes.
func TestPeek(t *testing.T) {
	for place := range 5 {
		for _, a := range asks {
			r := full3(t, place)
			for range 2 {
				wantBytes(t, "Peek", r.Peek(a.n), "abc"[:a.got])
			}
			wantSizes(t, r, 3, 4)
			wantMoved(t, r, place+3, place)
			wantBytes(t, "what is left", r.Take(4), "abc")
		}
	}
}

// 1.2: Drop takes out what Take would, and tells how many.
func TestDrop(t *testing.T) {
	for place := range 5 {
		for _, a := range asks {
			r := full3(t, place)
			wantInt(t, "Drop", r.Drop(a.n), a.got)
			wantSizes(t, r, 3-a.got, 4)
			wantMoved(t, r, place+3, place+a.got)
			wantBytes(t, "what is left", r.Take(4), "abc"[a.got:])
		}
	}
}

// 1.2: of a ring without bytes there is nothing to be had.
func TestEmpty(t *testing.T) {
	r := made(t, 4)
	for _, a := range asks {
		wantBytes(t, "Take", r.Take(a.n), "")
		wantBytes(t, "Peek", r.Peek(a.n), "")
		wantInt(t, "Drop", r.Drop(a.n), 0)
	}
	wantSizes(t, r, 0, 4)
	wantMoved(t, r, 0, 0)
}

// 1.3: Clear counts what it takes out; the ring goes on from there.
func TestClear(t *testing.T) {
	for place := range 5 {
		r := full3(t, place)
		for range 2 {
			r.Clear()
			wantSizes(t, r, 0, 4)
			wantMoved(t, r, place+3, place+3)
			wantBytes(t, "Take", r.Take(4), "")
		}
		wantInt(t, "Put", r.Put([]byte("wxyz!")), 4)
		wantBytes(t, "Take", r.Take(4), "wxyz")
		wantMoved(t, r, place+7, place+7)
	}
}

// 1.3: a clone stands where the ring does, and each goes on alone.
func TestClone(t *testing.T) {
	for place := range 5 {
		r := full3(t, place)
		c := r.Clone()
		if c == nil || c == r {
			t.Fatal("Clone: no ring of its own")
		}
		wantSizes(t, c, 3, 4)
		wantMoved(t, c, place+3, place)
		wantInt(t, "Put into the ring", r.Put([]byte("d")), 1)
		wantBytes(t, "Take from the ring", r.Take(2), "ab")
		wantInt(t, "Put into the ring", r.Put([]byte("ef")), 2)
		wantSizes(t, c, 3, 4)
		wantMoved(t, c, place+3, place)
		wantInt(t, "Put into the clone", c.Put([]byte("xyz")), 1)
		wantBytes(t, "Peek of the clone", c.Peek(4), "abcx")
		c.Clear()
		wantInt(t, "Put into the clone", c.Put([]byte("....")), 4)
		wantBytes(t, "Take from the ring", r.Take(4), "cdef")
		wantMoved(t, r, place+6, place+6)
		wantMoved(t, c, place+8, place+4)
	}
}

// 1.3, 1.5: both numbers of Moved go round at 1 << 32, and Len does not mind.
func TestMovedGoesRound(t *testing.T) {
	const size = 60000 // no power of two: the array's end is not where the counts go round
	const whole = 1 << 32
	r := made(t, size)
	b := count(0, size)
	sum := 0
	for ; sum+size < whole; sum += size {
		r.Put(b)
		r.Drop(size)
	}
	wantMoved(t, r, sum, sum)
	rest := whole - sum
	wantInt(t, "Put", r.Put(b[:rest-1]), rest-1)
	wantMoved(t, r, whole-1, sum)
	wantInt(t, "Put", r.Put([]byte{9}), 1)
	wantMoved(t, r, 0, sum)
	wantSizes(t, r, rest, size)
	wantInt(t, "Put", r.Put([]byte{8}), 1)
	wantMoved(t, r, 1, sum)
	wantSizes(t, r, rest+1, size)
	c := r.Clone()
	wantMoved(t, c, 1, sum)
	wantBytes(t, "Take", r.Take(rest-1), string(b[:rest-1]))
	wantMoved(t, r, 1, whole-1)
	wantBytes(t, "Take", r.Take(9), "\x09\x08")
	wantMoved(t, r, 1, 1)
	c.Clear()
	wantMoved(t, c, 1, 1)
}

// Rules 2, P1: a ring that no call made answers zero values and does nothing.
func TestNotMade(t *testing.T) {
	var none *ring.Ring
	for name, r := range map[string]*ring.Ring{"nil": none, "Ring{}": {}} {
		for _, n := range []int{math.MinInt, -1, 0, 1, 9, math.MaxInt} {
			wantInt(t, name+": Put", r.Put([]byte("abc")), 0)
			wantInt(t, name+": Put of nil", r.Put(nil), 0)
			wantBytes(t, name+": Take", r.Take(n), "")
			wantBytes(t, name+": Peek", r.Peek(n), "")
			wantInt(t, name+": Drop", r.Drop(n), 0)
			r.Clear()
			wantSizes(t, r, 0, 0)
			wantMoved(t, r, 0, 0)
			if c := r.Clone(); c != nil {
				t.Errorf("%s: Clone: %v, want nil", name, c)
			}
		}
	}
}

// Rules 4: what is handed in is neither changed nor kept, what is handed out is the caller's own.
func TestNothingIsShared(t *testing.T) {
	for place := range 5 {
		r := made(t, 4)
		r.Put(make([]byte, place))
		r.Drop(place)
		b := []byte("abcdef")
		wantInt(t, "Put", r.Put(b), 4)
		wantBytes(t, "what was handed in", b, "abcdef")
		copy(b, "......")
		wantBytes(t, "Peek", r.Peek(4), "abcd")
		copy(r.Peek(4), "....")
		first, second := r.Peek(4), r.Peek(4)
		copy(first, "....")
		wantBytes(t, "another Peek", second, "abcd")
		taken := r.Take(4)
		wantInt(t, "Put", r.Put([]byte("wxyz")), 4)
		wantBytes(t, "what was taken", taken, "abcd")
		wantBytes(t, "what was handed in", b, "......")
		_ = append(taken[:2], "...."...)
		wantBytes(t, "Take", r.Take(4), "wxyz")
	}
}

// Words: the memory is made once, by New, so that a ring in use never asks for more.
func TestMemoryIsMadeOnce(t *testing.T) {
	r := made(t, 100)
	b := count(0, 70)
	n := testing.AllocsPerRun(100, func() {
		r.Put(b)
		r.Drop(60)
		r.Put(b)
		r.Clear()
	})
	if n != 0 {
		t.Errorf("memory was made %v times a run", n)
	}
}
