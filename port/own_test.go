package port_test

import (
	"fmt"
	"math"
	"slices"
	"strings"
	"testing"

	"sallyport/api"
	"sallyport/port"
)

// Rule 4: bytes and rules that were handed in are neither changed nor kept, nor is what lies behind them.
func TestHandedIn(t *testing.T) {
	p := laid(t, 9, []string{"open +5"}, nil)
	all := []byte("abcdefghijkl")
	wantInt(t, "Send", p.Send(0, all[:3]), 3)
	wantInt(t, "Send", p.Send(0, all[3:9]), 2)
	wantErr(t, "Post", p.Post(all[8:10]), api.OK)
	rules := []api.Rule{{Suffix: "a", Low: 1, High: 2}}
	wantEvent(t, p, api.Event{Kind: api.EvData, Data: string(all), Rules: rules}, 9, api.OK)
	if string(all) != "abcdefghijkl" || rules[0] != (api.Rule{Suffix: "a", Low: 1, High: 2}) {
		t.Errorf("what was handed in is %q, %v then", all, rules)
	}
	clear(all)
	clear(rules)
	wantText(t, "Peek", p.Peek(0, 9), "abcdefghi")
	wantOuts(t, p,
		api.Out{Kind: api.OData, Data: "abc"},
		api.Out{Kind: api.OData, Data: "de"},
		api.Out{Kind: api.OGram, End: 1, Data: "ij"},
	)
}

// Rule 4: what was handed out may be written over, and on behind its end, without changing what the port tells.
func TestHandedOut(t *testing.T) {
	p := laid(t, 9, []string{"open =abcdef +9"}, nil)
	for _, text := range []string{"first", "second", "third"} {
		addGram(t, p, 1, text)
	}
	over := func(b []byte) { clear(b[:cap(b)]) }
	over(p.Peek(0, 9))
	wantText(t, "Peek", p.Peek(0, 9), "abcdef")
	over(p.Take(0, 2))
	wantText(t, "Peek", p.Peek(0, 9), "cdef")
	one, two := p.Peek(0, 3), p.Peek(0, 3)
	over(one)
	wantText(t, "another Peek", two, "cde")
	b, _ := p.Gram()
	over(b)
	wantGram(t, p, "second")
	wantSend(t, p, 0, "ab", 2)
	wantSend(t, p, 0, "cd", 2)
	outs := p.Outs()
	wantSend(t, p, 0, "ef", 2)
	if len(outs) != 2 || outs[0].Data != "ab" || outs[1].Data != "cd" {
		t.Errorf("outputs that were handed out are %v then", outs)
	}
	clear(outs[:cap(outs)])
	wantOuts(t, p, api.Out{Kind: api.OData, Data: "ef"})
	wantGram(t, p, "third")
	wantText(t, "Take", p.Take(0, 9), "cdef")
}

// somePorts is ports that stand in many ways, with datagrams and outputs that wait.
func somePorts(t *testing.T) []*port.Port {
	t.Helper()
	list := []*port.Port{made(t, 0, 0, 1), made(t, 2, 2, 4)}
	for _, from := range allWords {
		for _, s := range scenes(t, from) {
			list = append(list, s.p)
		}
	}
	full := laid(t, 4, []string{"open =abcd +9", "open =ab +9"}, []string{"open =abcd +9", "idle"})
	for i := range 8 {
		addGram(t, full, 4, fmt.Sprint("gram ", i))
	}
	for i := range 5 {
		wantSend(t, full, i%3, fmt.Sprint(i), 1)
	}
	return append(list, full)
}

// 15.4: a clone stands where the port does, bytes, datagrams and outputs included.
func TestCloneStandsThere(t *testing.T) {
	for i, p := range somePorts(t) {
		c := p.Clone()
		if c == nil || c == p {
			t.Fatalf("Clone of port %d: %p, of %p", i, c, p)
		}
		d := c.Clone()
		want, outs := stands(p, -1), p.Outs()
		for _, c := range []*port.Port{c, d} {
			if got := stands(c, -1); got != want {
				t.Errorf("Clone of port %d:\n%s\nwant\n%s", i, got, want)
			}
			if got := c.Outs(); !slices.Equal(got, outs) {
				t.Errorf("Clone of port %d has outputs %v, want %v", i, got, outs)
			}
		}
	}
}

// changes is what may be done to a port: each call that changes something, at each of the first endpoints.
func changes() []func(*port.Port) {
	list := []func(*port.Port){
		func(p *port.Port) { p.Accept() },
		func(p *port.Port) { p.Gram() },
		func(p *port.Port) { p.Outs() },
		func(p *port.Port) { p.Post([]byte("other")) },
		func(p *port.Port) { p.Dial(dest(77)) },
		func(p *port.Port) { p.Event(api.Event{Kind: api.EvGram, End: count(p), Data: "other"}) },
		func(p *port.Port) {
			outs := p.Outs()
			clear(outs[:cap(outs)])
		},
	}
	for end := range 6 {
		for kind := api.EvOpen; kind <= api.EvDown; kind++ {
			list = append(list, func(p *port.Port) { p.Event(api.Event{Kind: kind, End: end, N: 3, Data: "XYZ"}) })
		}
		list = append(list,
			func(p *port.Port) { p.Send(end, []byte("SENT")) },
			func(p *port.Port) { p.Fin(end) },
			func(p *port.Port) { p.Close(end) },
			func(p *port.Port) { p.Take(end, 1) },
			func(p *port.Port) {
				p.Take(end, 2)
				p.Event(api.Event{Kind: api.EvData, End: end, Data: "WXYZ"})
			},
		)
	}
	return list
}

// 15.4: a clone is a port of its own: what is done to the one changes nothing of the other.
func TestCloneIsItsOwn(t *testing.T) {
	for _, p := range somePorts(t) {
		for _, change := range changes() {
			c := p.Clone()
			wantKept(t, "what is done to the clone", p, func() { change(c) })
			c, d := p.Clone(), p.Clone()
			wantKept(t, "what is done to the port", c, func() { change(d) })
			if t.Failed() {
				return
			}
		}
	}
}

// 15.4: what goes out, and what comes into the box, behind a Clone goes to each for itself, though both were the same list.
func TestCloneGoesOn(t *testing.T) {
	for there := range 6 {
		p := laid(t, 4, []string{"open +99"}, nil)
		for i := range there {
			addGram(t, p, 1, fmt.Sprint(i))
			wantSend(t, p, 0, fmt.Sprint(i), 1)
		}
		c := p.Clone()
		addGram(t, p, 1, "p")
		wantSend(t, p, 0, "p", 1)
		addGram(t, c, 1, "c")
		wantSend(t, c, 0, "c", 1)
		for _, x := range []struct {
			p    *port.Port
			last string
		}{{p, "p"}, {c, "c"}} {
			outs := x.p.Outs()
			wantInt(t, "outputs", len(outs), there+1)
			wantText(t, "the last output", []byte(outs[there].Data), x.last)
			for i := range there {
				wantText(t, "an output", []byte(outs[i].Data), fmt.Sprint(i))
				wantGram(t, x.p, fmt.Sprint(i))
			}
			wantGram(t, x.p, x.last)
			wantNoGram(t, x.p, api.ErrNone)
		}
	}
}

// Rule 2: of a port that no call made each call answers ErrNil ahead of all else, or zero values, and nothing is done.
func TestUnmade(t *testing.T) {
	for _, p := range []*port.Port{nil, {}, new(port.Port)} {
		for range 2 {
			for _, end := range []int{math.MinInt, -1, 0, 1, 2, math.MaxInt} {
				for _, kind := range []int{-1, 0, 1, 2, 3, 4, 5, 6, 7, 8, 9, 13} {
					wantEvent(t, p, api.Event{Kind: kind, End: end, Data: "a"}, 0, api.ErrNil)
					wantEvent(t, p, api.Event{Kind: kind, End: end, N: -1, Data: strings.Repeat("a", 600)}, 0, api.ErrNil)
				}
				wantUnmadeEnd(t, p, end)
			}
			wantNoAccept(t, p, api.ErrNil)
			wantNoDial(t, p, dest(1), api.ErrNil)
			wantNoDial(t, p, api.Dest{}, api.ErrNil)
			wantNoDial(t, p, api.Dest{Host: api.Host{Name: "a"}, Port: 80}, api.ErrNil)
			wantNoGram(t, p, api.ErrNil)
			wantErr(t, "Post", p.Post([]byte("a")), api.ErrNil)
			wantErr(t, "Post", p.Post(make([]byte, 600)), api.ErrNil)
			wantOuts(t, p)
			wantInt(t, "Used", p.Used(), 0)
			if c := p.Clone(); c != nil {
				t.Errorf("Clone: %v, want nil", c)
			}
		}
	}
}

func wantUnmadeEnd(t *testing.T, p *port.Port, end int) {
	t.Helper()
	wantState(t, p, end, 0, api.ErrNil)
	wantInt(t, "Waiting", p.Waiting(end), 0)
	for _, n := range []int{-1, 0, 1, math.MaxInt} {
		wantInt(t, "Peek", len(p.Peek(end, n)), 0)
		wantInt(t, "Take", len(p.Take(end, n)), 0)
	}
	wantBool(t, "Last", p.Last(end), false)
	wantBool(t, "Ended", p.Ended(end), false)
	wantInt(t, "Room", p.Room(end), 0)
	wantSend(t, p, end, "a", 0)
	wantErr(t, "Fin", p.Fin(end), api.ErrNil)
	wantErr(t, "Close", p.Close(end), api.ErrNil)
}
