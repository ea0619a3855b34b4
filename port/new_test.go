package port_test

import (
	"fmt"
	"math"
	"strings"
	"testing"

	"sallyport/api"
	"sallyport/port"
)

// New takes clients and servers from 0 to MaxEnds and a ring from 1 to MaxBytes, and nothing else.
func TestNew(t *testing.T) {
	ends := []int{math.MinInt, -1, 0, 1, 2, api.MaxEnds - 1, api.MaxEnds, api.MaxEnds + 1, math.MaxInt}
	sizes := []int{math.MinInt, -1, 0, 1, 2, 4095, api.MaxBytes - 1, api.MaxBytes, api.MaxBytes + 1, math.MaxInt}
	isEnds := func(n int) bool { return n >= 0 && n <= 64 }
	for _, clients := range ends {
		for _, servers := range ends {
			for _, size := range sizes {
				p, e := port.New(clients, servers, size)
				if isEnds(clients) && isEnds(servers) && size >= 1 && size <= 65536 {
					if p == nil || e != api.OK || count(p) != clients+servers {
						t.Fatalf("New(%d, %d, %d): %v", clients, servers, size, e)
					}
				} else if p != nil || e != api.ErrArg {
					t.Fatalf("New(%d, %d, %d): %v, %v, want %v", clients, servers, size, p, e, api.ErrArg)
				}
			}
		}
	}
}

// A new port's endpoints are idle, in order clients, servers and the box, and nothing is there.
func TestNewPort(t *testing.T) {
	for _, clients := range []int{0, 1, 3, api.MaxEnds} {
		for _, servers := range []int{0, 1, 3, api.MaxEnds} {
			p := made(t, clients, servers, 7)
			box := clients + servers
			for end := range box {
				if got := written(p, end); got != "idle" {
					t.Errorf("endpoint %d of a new port stands as %s", end, got)
				}
			}
			wantNoAccept(t, p, api.ErrNone)
			wantNoGram(t, p, api.ErrNone)
			wantOuts(t, p)
			wantInt(t, "Used", p.Used(), 0)
			wantState(t, p, box, 0, api.ErrArg)
			wantSorts(t, p, clients, servers)
		}
	}
}

// wantSorts wants each endpoint of a port to be of its sort: clients are opened, servers are dialled, the box takes datagrams and sends them.
func wantSorts(t *testing.T, p *port.Port, clients, servers int) {
	t.Helper()
	box := clients + servers
	for end := -1; end <= box+1; end++ {
		c := p.Clone()
		if end >= 0 && end < clients {
			come(t, c, api.EvOpen, end)
		} else {
			wantEvent(t, c, api.Event{Kind: api.EvOpen, End: end}, 0, api.ErrArg)
		}
		if end == box {
			addGram(t, c, end, "a")
		} else {
			wantEvent(t, c, api.Event{Kind: api.EvGram, End: end, Data: "a"}, 0, api.ErrArg)
		}
	}
	for i := range servers {
		wantDial(t, p, dest(1), clients+i)
	}
	wantNoDial(t, p, dest(1), api.ErrFull)
	p.Outs()
	wantErr(t, "Post", p.Post([]byte("a")), api.OK)
	wantOuts(t, p, api.Out{Kind: api.OGram, End: box, Data: "a"})
}

// Each endpoint has a ring of just so many bytes, of its own.
func TestRingSize(t *testing.T) {
	for _, size := range []int{1, 2, 3, 4, 255, 4096, api.MaxBytes - 1, api.MaxBytes} {
		p := laid(t, size, []string{"open", "new"}, []string{"open"})
		text := strings.Repeat("0123456789", api.MaxBytes/10+1)
		for end := range 3 {
			one := text[end:]
			wantEvent(t, p, api.Event{Kind: api.EvData, End: end, Data: one}, size, api.OK)
			wantEvent(t, p, api.Event{Kind: api.EvData, End: end, Data: one}, 0, api.OK)
			wantInt(t, "Waiting", p.Waiting(end), size)
			wantInt(t, "Used", p.Used(), (end+1)*size)
		}
		for end := range 3 {
			wantText(t, fmt.Sprint("Take of ", end), p.Take(end, math.MaxInt), text[end:end+size])
		}
		wantInt(t, "Used", p.Used(), 0)
	}
}
