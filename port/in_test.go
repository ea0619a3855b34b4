package port_test

import (
	"fmt"
	"math"
	"strings"
	"testing"

	"sallyport/api"
	"sallyport/port"
)

// 15.2: Accept tells the least client that is new, which is not new any more.
func TestAccept(t *testing.T) {
	for _, c := range []struct {
		clients []string
		want    []int
	}{
		{nil, nil},
		{[]string{"idle"}, nil},
		{[]string{"was idle", "gone", "open"}, nil},
		{[]string{"new"}, []int{0}},
		{[]string{"was new"}, []int{0}},
		{[]string{"idle", "idle", "new =ab +1 < >"}, []int{2}},
		{[]string{"open", "new", "open"}, []int{1}},
		{[]string{"new", "open", "new", "new"}, []int{0, 2, 3}},
		{[]string{"gone", "new <", "idle", "new =ab"}, []int{1, 3}},
		{[]string{"was idle", "was open", "was new", "was gone"}, []int{2}},
	} {
		p := laid(t, 4, c.clients, []string{"open", "dialled", "gone"})
		for _, end := range c.want {
			before := written(p, end)
			wantAccept(t, p, end)
			if got, want := written(p, end), strings.Replace(before, "new", "open", 1); got != want {
				t.Errorf("%v: client %d is %s behind Accept, want %s", c.clients, end, got, want)
			}
		}
		for range 2 {
			wantKept(t, "Accept", p, func() { wantNoAccept(t, p, api.ErrNone) })
		}
		wantOuts(t, p)
	}
}

// 15.2: it is the least one, not the one that was opened first; one that comes later may be less than all that were accepted.
func TestAcceptLeast(t *testing.T) {
	p := made(t, 4, 0, 4)
	for _, end := range []int{3, 1, 2} {
		come(t, p, api.EvOpen, end)
	}
	wantAccept(t, p, 1)
	come(t, p, api.EvOpen, 0)
	wantAccept(t, p, 0)
	come(t, p, api.EvReset, 2)
	wantAccept(t, p, 3)
	wantNoAccept(t, p, api.ErrNone)
	come(t, p, api.EvReset, 3)
	wantNoAccept(t, p, api.ErrNone)
	wantErr(t, "Close", p.Close(3), api.OK)
	come(t, p, api.EvOpen, 3)
	come(t, p, api.EvOpen, 2)
	wantAccept(t, p, 2)
	wantAccept(t, p, 3)
}

// A client that was closed while it was new is idle, and nobody accepts it.
func TestCloseOfNew(t *testing.T) {
	p := laid(t, 4, []string{"new =ab", "new"}, nil)
	wantErr(t, "Close", p.Close(0), api.OK)
	wantAccept(t, p, 1)
	wantNoAccept(t, p, api.ErrNone)
	come(t, p, api.EvOpen, 0)
	wantAccept(t, p, 0)
}

// 15.2: the state of each client and server; of all other endpoints, and of the box, ErrArg.
func TestState(t *testing.T) {
	p := laid(t, 4,
		[]string{"idle", "was idle", "new", "open", "open < >", "gone", "was gone =ab +1"},
		[]string{"idle", "was idle", "dialled", "was dialled", "open", "open =ab <", "gone", "down", "lost"})
	for end, want := range []int{0, 0, 1, 1, 1, 3, 3, 0, 0, 2, 2, 1, 1, 3, 3, 3} {
		wantState(t, p, end, want, api.OK)
	}
	for _, end := range []int{math.MinInt, -1, 16, 17, 64, 1 << 32, math.MaxInt} {
		wantState(t, p, end, 0, api.ErrArg)
	}
	if port.Idle != 0 || port.Open != 1 || port.Dialled != 2 || port.Gone != 3 {
		t.Error("states have other numbers than the chapter's")
	}
}

// 15.2: what waits at each endpoint in each way of standing; Peek leaves it there, Take does not.
func TestPeekAndTake(t *testing.T) {
	for _, from := range allWords {
		data := ""
		if w := read(from); w.state == "new" || w.state == "open" {
			data = w.data
		}
		for _, n := range []int{math.MinInt, -1, 0, 1, len(data) - 1, len(data), len(data) + 1, math.MaxInt} {
			k := max(0, min(n, len(data)))
			step(t, "Peek", from, "", nil, func(p *port.Port, end int) {
				wantInt(t, "Waiting", p.Waiting(end), len(data))
				wantText(t, fmt.Sprintf("Peek(%d, %d)", end, n), p.Peek(end, n), data[:k])
			})
			rest := read(read(from).told())
			rest.data = data[k:]
			step(t, "Take", from, write(rest), nil, func(p *port.Port, end int) {
				used := p.Used()
				wantText(t, fmt.Sprintf("Take(%d, %d)", end, n), p.Take(end, n), data[:k])
				wantInt(t, "Waiting", p.Waiting(end), len(data)-k)
				wantInt(t, "Used", p.Used(), used-k)
			})
		}
	}
}

// Take makes room for as many bytes as it took, all round the ring.
func TestTakeMakesRoom(t *testing.T) {
	p := laid(t, 4, []string{"open"}, nil)
	text := "abcdefghijklmnopqrstuvwxyz"
	in, out := 0, 0
	for i := range 40 {
		n, e := p.Event(api.Event{Kind: api.EvData, Data: text[in:min(in+3, 26)]})
		if e != api.OK || n != min(3, 4-(in-out), 26-in) {
			t.Fatalf("EvData: %d, %v, %d wait", n, e, in-out)
		}
		in += n
		b := p.Take(0, i%4)
		wantText(t, "Take", b, text[out:min(out+i%4, in)])
		out += len(b)
	}
	wantInt(t, "taken", out, 26)
}

// 15.2: Last, if it is open and the other side has ended; Ended, if nothing waits then, too.
func TestLastAndEnded(t *testing.T) {
	for _, from := range allWords {
		w := read(from)
		last := (w.state == "new" || w.state == "open") && w.other
		step(t, "Last and Ended", from, "", nil, func(p *port.Port, end int) {
			wantBool(t, "Last", p.Last(end), last)
			wantBool(t, "Ended", p.Ended(end), last && w.data == "")
		})
	}
	p := laid(t, 4, []string{"open =abc <"}, []string{"open =abc <"})
	for end := range 2 {
		for _, n := range []int{2, 0, 1} {
			wantBool(t, "Last", p.Last(end), true)
			wantBool(t, "Ended", p.Ended(end), false)
			p.Take(end, n)
		}
		wantBool(t, "Last", p.Last(end), true)
		wantBool(t, "Ended", p.Ended(end), true)
		come(t, p, api.EvReset, end)
		wantBool(t, "Last", p.Last(end), false)
		wantBool(t, "Ended", p.Ended(end), false)
	}
}

// At the box, and at endpoints that there are not, all of these tell zero values, and nothing is done.
func TestNoSuchEndpoint(t *testing.T) {
	for _, p := range []*port.Port{made(t, 0, 0, 4), laid(t, 4, []string{"open =ab +5 <"}, []string{"open =cd +5 <"})} {
		box := count(p)
		addGram(t, p, box, "gram")
		for _, end := range []int{math.MinInt, -1, box, box + 1, 1 << 32, math.MaxInt} {
			wantKept(t, fmt.Sprint("what is asked of ", end), p, func() {
				for _, n := range []int{-1, 0, 1, math.MaxInt} {
					wantInt(t, "Peek", len(p.Peek(end, n)), 0)
					wantInt(t, "Take", len(p.Take(end, n)), 0)
				}
				wantInt(t, "Waiting", p.Waiting(end), 0)
				wantBool(t, "Last", p.Last(end), false)
				wantBool(t, "Ended", p.Ended(end), false)
				wantInt(t, "Room", p.Room(end), 0)
				wantSend(t, p, end, "x", 0)
				wantSend(t, p, end, "", 0)
				wantErr(t, "Fin", p.Fin(end), api.ErrArg)
				wantErr(t, "Close", p.Close(end), api.ErrArg)
				wantState(t, p, end, 0, api.ErrArg)
			})
		}
	}
}

// 15.2: datagrams come out in order, each once, and each makes place for another one.
func TestGram(t *testing.T) {
	p := laid(t, 4, []string{"open =ab"}, []string{"dialled"})
	for range 2 {
		wantKept(t, "Gram", p, func() { wantNoGram(t, p, api.ErrNone) })
	}
	in, out := 0, 0
	for _, put := range []int{1, 0, 3, 5, 8, 0, 0, 2, 8, 1} {
		for range put {
			want := api.OK
			if in-out == 8 {
				want = api.ErrFull
			}
			wantEvent(t, p, api.Event{Kind: api.EvGram, End: 2, Data: fmt.Sprint("gram ", in)}, 0, want)
			if want == api.OK {
				in++
			}
		}
		for range min(3, in-out) {
			wantGram(t, p, fmt.Sprint("gram ", out))
			out++
		}
	}
	for ; out < in; out++ {
		wantGram(t, p, fmt.Sprint("gram ", out))
	}
	wantNoGram(t, p, api.ErrNone)
	for _, text := range []string{"", strings.Repeat("g", api.MaxGram), ""} {
		addGram(t, p, 2, text)
	}
	wantGram(t, p, "")
	wantGram(t, p, strings.Repeat("g", 512))
	wantGram(t, p, "")
	wantNoGram(t, p, api.ErrNone)
	wantOuts(t, p)
}

// 15.4: Used is the bytes of all rings, of clients and servers, and neither datagrams nor outputs.
func TestUsed(t *testing.T) {
	p := laid(t, 4, []string{"open =abcd", "new =a", "gone =abc"}, []string{"open =ab <", "dialled", "open =abc < >"})
	addGram(t, p, 6, "gram")
	wantErr(t, "Post", p.Post([]byte("post")), api.OK)
	giveRoom(t, p, 0, 9)
	wantSend(t, p, 0, "sent", 4)
	wantInt(t, "Used", p.Used(), 10)
	p.Peek(0, 3)
	wantInt(t, "Used", p.Used(), 10)
	p.Take(0, 3)
	wantInt(t, "Used", p.Used(), 7)
	come(t, p, api.EvReset, 1)
	wantInt(t, "Used", p.Used(), 6)
	wantErr(t, "Close", p.Close(5), api.OK)
	wantInt(t, "Used", p.Used(), 3)
	come(t, p, api.EvReset, 3)
	wantInt(t, "Used", p.Used(), 1)
	bring(t, p, 0, "xyz")
	wantInt(t, "Used", p.Used(), 4)
	words := make([]string, api.MaxEnds)
	for i := range words {
		words[i] = "open =abcd"
	}
	wantInt(t, "Used", laid(t, 4, words, words).Used(), 2*64*4)
}
