package relay_test

import (
	"fmt"
	"math"
	"math/rand"
	"strings"
	"testing"

	"sallyport/api"
	"sallyport/port"
)

// side is what came to an endpoint, and went out there, since it was opened.
type side struct {
	in, out     string
	room        int
	ended       bool // no more comes in
	handed      bool // its end went out at the other one
	wasReset    bool // it was reset from without
	resetBehind bool // a reset went out there
}

// talk is a pair of a port, and what came and went there alone.
type talk struct {
	p     *port.Port
	sides [2]side
	asked bool // the last thing was a Step, which tells whether the pair is over
	over  bool
}

// newTalk is a pair that is open.
func newTalk(t *testing.T, size int) *talk {
	t.Helper()
	return &talk{p: laid(t, size, []string{"open"}, []string{"open"})}
}

// event lets something come.
func (k *talk) event(e api.Event) {
	n, err := k.p.Event(e)
	if err != api.OK {
		return
	}
	s := &k.sides[e.End]
	switch e.Kind {
	case api.EvData:
		s.in += e.Data[:n]
	case api.EvRoom:
		s.room += e.N
	case api.EvFin:
		s.ended = true
	case api.EvReset:
		s.wasReset = true
	}
}

// gather takes what went out.
func (k *talk) gather(t *testing.T) {
	t.Helper()
	for _, o := range k.p.Outs() {
		this, other := &k.sides[o.End], &k.sides[1-o.End]
		switch o.Kind {
		case api.OData:
			if o.Data == "" || other.handed {
				t.Errorf("%q goes out at %d, of which the end went out (%v)", o.Data, o.End, other.handed)
			}
			this.out += o.Data
		case api.OFin:
			if !other.ended || this.out != other.in || other.handed {
				t.Errorf("an end goes out at %d: the other one has ended %v, sent %q, of which %q went out; an end went out %v", o.End, other.ended, other.in, this.out, other.handed)
			}
			other.handed = true
		case api.OReset:
			this.resetBehind = true
		default:
			t.Errorf("%v goes out", o)
		}
	}
}

// look holds 19.4 and 19.5 against what came and went, and at the end 19.6 too.
func (k *talk) look(t *testing.T) {
	t.Helper()
	for end := range k.sides {
		this, other := &k.sides[end], &k.sides[1-end]
		if !strings.HasPrefix(other.in, this.out) {
			t.Errorf("19.4: %q went out at %d, but %q came in at the other one", this.out, end, other.in)
		}
		if len(this.out) > this.room {
			t.Errorf("19.5: %d bytes went out at %d, where there was room for %d", len(this.out), end, this.room)
		}
		if waits := string(k.p.Peek(1-end, api.MaxBytes)); !k.over && !other.wasReset && this.out+waits != other.in {
			t.Errorf("19.5: %q went out at %d and %q waits, but %q came in", this.out, end, waits, other.in)
		}
	}
	a, b := &k.sides[0], &k.sides[1]
	if k.asked && !a.wasReset && !b.wasReset && k.over != (a.handed && b.handed) {
		t.Errorf("19.6: the pair is over %v, but of the ends there went out %v and %v", k.over, a.handed, b.handed)
	}
	if !a.wasReset && !b.wasReset && (a.resetBehind || b.resetBehind) {
		t.Errorf("19.6: a reset goes out (%v, %v), though none came in", a.resetBehind, b.resetBehind)
	}
}

// 19.4, 19.5, 19.6: on drawn lists of events and calls, what goes out at one of a pair is a beginning of what came in at the other one, and no more than its room; the rest waits; an end goes out behind all else, and the pair is over when both did.
func TestDrawnTalks(t *testing.T) {
	byEnds, byReset, bytes := 0, 0, 0
	for seed := range int64(3000) {
		r := rand.New(rand.NewSource(seed))
		k := newTalk(t, 1+r.Intn(12))
		mayReset := r.Intn(4) == 0
		for range 300 {
			k.drawn(t, r, mayReset)
			k.gather(t)
			k.look(t)
			if t.Failed() {
				t.Fatalf("above: seed %d", seed)
			}
			if k.over {
				break
			}
		}
		bytes += len(k.sides[0].out) + len(k.sides[1].out)
		switch {
		case k.over && (k.sides[0].wasReset || k.sides[1].wasReset):
			byReset++
		case k.over:
			byEnds++
		}
	}
	if byEnds < 1000 || byReset < 200 || bytes < 50000 {
		t.Errorf("of the talks %d are over by ends, %d by resets; %d bytes went out", byEnds, byReset, bytes)
	}
}

// drawn does one thing. The pair is over when a Step tells so.
func (k *talk) drawn(t *testing.T, r *rand.Rand, mayReset bool) {
	t.Helper()
	end, most := r.Intn(2), 1+r.Intn(9)
	k.asked = false
	if r.Intn(20) == 0 {
		most = math.MaxInt
	}
	switch r.Intn(16) {
	case 0:
		if mayReset {
			k.event(api.Event{Kind: api.EvReset, End: end})
			return
		}
		fallthrough
	case 1:
		if r.Intn(6) == 0 {
			k.event(api.Event{Kind: api.EvFin, End: end})
		}
	case 2, 3, 4, 5:
		text := make([]byte, r.Intn(12))
		for i := range text {
			text[i] = byte(r.Intn(256))
		}
		k.event(api.Event{Kind: api.EvData, End: end, Data: string(text)})
	case 6, 7, 8, 9:
		k.event(api.Event{Kind: api.EvRoom, End: end, N: r.Intn(12)})
	case 10, 11:
		k.moved(t, fmt.Sprintf("Move(%d, %d, %d)", end, 1-end, most), moving(most)(k.p, end, 1-end))
	default:
		k.asked = true
		k.moved(t, fmt.Sprintf("Step(%d, %d, %d)", end, 1-end, most), stepping(most)(k.p, end, 1-end))
	}
}

// moved wants a call to tell as many bytes as go out, and both endpoints to be idle when the pair is over.
func (k *talk) moved(t *testing.T, what string, got answer) {
	t.Helper()
	n := 0
	for _, o := range k.p.Clone().Outs() {
		n += len(o.Data)
	}
	if got.err != api.OK || got.n != n {
		t.Errorf("%s: %v, but %d bytes go out", what, got, n)
	}
	if got.over {
		k.over = true
		for end := range 2 {
			if state, _ := k.p.State(end); state != port.Idle {
				t.Errorf("%s: the pair is over, but %d is %d", what, end, state)
			}
		}
	}
}

// stepsFor is how many Steps 19.7 tells for so many bytes.
func stepsFor(waits, most int) int {
	steps := 0
	for ; waits > 0; waits -= most {
		steps++
	}
	return steps
}

// 19.7: with room enough, as many Steps as it tells hand on all that waits at either side, and one fewer do not.
func TestStepsEnough(t *testing.T) {
	for waitsA := range 14 {
		for waitsB := range 14 {
			for most := 1; most < 16; most++ {
				p := laid(t, 20, []string{"open"}, []string{"open"})
				for end, waits := range []int{waitsA, waitsB} {
					come(t, p, api.Event{Kind: api.EvData, End: end, Data: strings.Repeat("x", waits)}, waits)
					come(t, p, api.Event{Kind: api.EvRoom, End: 1 - end, N: waits}, 0)
				}
				enough := []int{stepsFor(waitsA, most), stepsFor(waitsB, most)}
				for done := range max(enough[0], enough[1]) + 1 {
					for end, steps := range enough {
						if gone := p.Waiting(end) == 0; gone != (done >= steps) {
							t.Errorf("behind %d Steps of %d there wait %d of %d and %d at %d, want all gone behind %d", done, most, p.Waiting(end), waitsA, waitsB, end, steps)
						}
					}
					stepping(most)(p, 0, 1)
				}
				if t.Failed() {
					return
				}
			}
		}
	}
}

// 19.7: so it is for a whole ring, and the end goes with the last byte.
func TestStepsForAll(t *testing.T) {
	for _, most := range []int{1000, 4096, 65535, 65536, 65537, math.MaxInt} {
		p := laid(t, api.MaxBytes, []string{"open"}, []string{"open"})
		come(t, p, api.Event{Kind: api.EvData, End: 0, Data: strings.Repeat("x", api.MaxBytes)}, api.MaxBytes)
		come(t, p, api.Event{Kind: api.EvFin, End: 0}, 0)
		come(t, p, api.Event{Kind: api.EvRoom, End: 1, N: api.MaxBytes}, 0)
		steps := (api.MaxBytes-1)/most + 1
		for done := range steps {
			if p.Waiting(0) == 0 {
				t.Errorf("behind %d Steps of %d nothing waits, want that behind %d", done, most, steps)
			}
			stepping(most)(p, 0, 1)
		}
		if got := stands(p, -1, -1); got != "0 open <\n1 open >\n" {
			t.Errorf("behind %d Steps of %d the port stands as\n%.80s", steps, most, got)
		}
	}
}

// 19.5: how many bytes go out in all hangs on the room, not on how it comes.
func TestRoomBitByBit(t *testing.T) {
	for _, bits := range [][]int{{7}, {1, 1, 1, 1, 1, 1, 1}, {0, 3, 0, 4}, {6, 1}, {1, 0, 0, 6}} {
		p := laid(t, 9, []string{"open =abcdefghi"}, []string{"open"})
		went := ""
		for _, n := range bits {
			come(t, p, api.Event{Kind: api.EvRoom, End: 1, N: n}, 0)
			if got := stepping(9)(p, 0, 1); got != (answer{n: n}) {
				t.Errorf("room by %v: Step %v, want %d", bits, got, n)
			}
			for _, o := range p.Outs() {
				went += o.Data
			}
		}
		if went != "abcdefg" || string(p.Peek(0, 9)) != "hi" {
			t.Errorf("room by %v: %q went out, %q waits", bits, went, p.Peek(0, 9))
		}
	}
}
