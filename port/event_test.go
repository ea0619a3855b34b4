package port_test

import (
	"fmt"
	"math"
	"strings"
	"testing"

	"sallyport/api"
	"sallyport/port"
)

// coming is an event at an endpoint that stands as from: how it is answered, and how the endpoint stands then (nothing: as it stood).
type coming struct {
	from string
	n    int
	err  api.Errno
	to   string
}

// wantComing wants an event to do so, wherever the endpoint is. What the kind does not use is as it would be wrong for other kinds.
func wantComing(t *testing.T, e api.Event, rows ...coming) {
	t.Helper()
	for _, c := range rows {
		what := fmt.Sprintf("event %d, N %d, %d bytes", e.Kind, e.N, len(e.Data))
		step(t, what, c.from, c.to, nil, func(p *port.Port, end int) {
			e.End = end
			wantEvent(t, p, e, c.n, c.err)
		})
	}
}

// junk is an event of a kind, with all that only other kinds use.
func junk(kind int) api.Event {
	return api.Event{Kind: kind, N: math.MinInt, Data: strings.Repeat("x", api.MaxBytes+1), Rules: []api.Rule{{Bits: 99}}}
}

// The chapter's example.
func TestExample(t *testing.T) {
	p := made(t, 1, 1, 4)
	come(t, p, api.EvOpen, 0)
	wantEvent(t, p, api.Event{Kind: api.EvData, Data: "abcdef"}, 4, api.OK)
	wantAccept(t, p, 0)
	wantText(t, "Take(0, 9)", p.Take(0, 9), "abcd")
	wantSend(t, p, 0, "x", 0)
	giveRoom(t, p, 0, 1)
	wantSend(t, p, 0, "xy", 1)
	wantOuts(t, p, api.Out{Kind: api.OData, Data: "x"})
}

// 15.1: a client that is idle is open and new, with nothing in it, whatever was there ahead of it.
func TestEvOpen(t *testing.T) {
	for _, e := range []api.Event{{Kind: api.EvOpen}, junk(api.EvOpen)} {
		for _, from := range allWords {
			if !read(from).mayBeClient() {
				continue
			}
			for _, s := range scenes(t, from) {
				e.End = s.end
				if e.End >= clientsOf(s) {
					continue
				}
				if read(from).state != "idle" {
					wantKept(t, "EvOpen of "+from, s.p, func() { wantEvent(t, s.p, e, 0, api.ErrBusy) })
					continue
				}
				before, outs := stands(s.p, s.end), fmt.Sprint(s.p.Clone().Outs())
				wantEvent(t, s.p, e, 0, api.OK)
				if got := written(s.p, s.end); got != "new" {
					t.Errorf("%s is %s behind EvOpen", from, got)
				}
				if stands(s.p, s.end) != before || fmt.Sprint(s.p.Outs()) != outs {
					t.Errorf("EvOpen at %d changes others", s.end)
				}
				wantEvent(t, s.p, e, 0, api.ErrBusy)
			}
		}
	}
}

// clientsOf is how many clients a scene's port has: behind them EvOpen is ErrArg.
func clientsOf(s scene) int {
	for end := range many {
		if _, e := s.p.Clone().Event(api.Event{Kind: api.EvOpen, End: end}); e == api.ErrArg {
			return end
		}
	}
	return many
}

// 15.1: as many bytes as have room go into the ring, as long as the other side has not ended.
func TestEvData(t *testing.T) {
	data := func(text string) api.Event { return api.Event{Kind: api.EvData, N: -1, Data: text} }
	wantComing(t, data(""), coming{"open", 0, 0, "open"}, coming{"open =abcd +3", 0, 0, ""}, coming{"new =ab", 0, 0, ""})
	wantComing(t, data("w"),
		coming{"open", 1, 0, "open =w"},
		coming{"was open", 1, 0, "open =w"},
		coming{"new", 1, 0, "new =w"},
		coming{"was new =ab +5", 1, 0, "new =abw +5"},
		coming{"open =abc", 1, 0, "open =abcw"},
		coming{"open =abcd", 0, 0, ""},
		coming{"open =ab +5 >", 1, 0, "open =abw >"},
		coming{"new =a >", 1, 0, "new =aw >"},
	)
	wantComing(t, data("stuv"), coming{"open", 4, 0, "open =stuv"}, coming{"open =ab", 2, 0, "open =abst"}, coming{"new =abc +1", 1, 0, "new =abcs +1"}, coming{"open =abcd", 0, 0, ""})
	wantComing(t, data("rstuv"), coming{"open", 4, 0, "open =rstu"}, coming{"open =a", 3, 0, "open =arst"}, coming{"new =abcd >", 0, 0, ""})
	for _, text := range []string{"", "w", "stuvw", strings.Repeat("x", api.MaxBytes+1)} {
		for _, from := range []string{
			"idle", "was idle", "dialled", "was dialled", "gone", "gone =ab +5", "gone <", "gone =ab < >", "was gone", "down", "lost", "was lost",
			"open <", "open =ab <", "open =abcd +5 <", "open < >", "open =ab +5 < >", "new <", "new =ab +5 <", "new < >",
		} {
			wantComing(t, data(text), coming{from, 0, api.ErrClosed, ""})
		}
	}
	for _, n := range []int{api.MaxBytes, api.MaxBytes + 1, 1 << 20} {
		wantComing(t, data(strings.Repeat("x", n)), coming{"open =ab", 2, 0, "open =abxx"})
	}
}

// 15.1: the other side ends once, while the endpoint is open.
func TestEvFin(t *testing.T) {
	wantEnd := func(rows ...coming) {
		wantComing(t, api.Event{Kind: api.EvFin}, rows...)
		wantComing(t, junk(api.EvFin), rows...)
	}
	wantEnd(
		coming{"open", 0, 0, "open <"},
		coming{"was open", 0, 0, "open <"},
		coming{"open =ab +5", 0, 0, "open =ab +5 <"},
		coming{"open =abcd", 0, 0, "open =abcd <"},
		coming{"open >", 0, 0, "open < >"},
		coming{"open =ab +5 >", 0, 0, "open =ab < >"},
		coming{"new", 0, 0, "new <"},
		coming{"new =ab +5", 0, 0, "new =ab +5 <"},
		coming{"new =ab >", 0, 0, "new =ab < >"},
	)
	for _, from := range []string{
		"idle", "was idle", "dialled", "was dialled", "gone", "gone =ab +5", "gone <", "was gone", "down", "lost",
		"open <", "open =ab +5 <", "open < >", "open =ab < >", "new <", "new =ab < >",
	} {
		wantEnd(coming{from, 0, api.ErrClosed, ""})
	}
}

// 15.1: what is open or dialled is gone, with all that was there; but a client that is new is idle again.
func TestEvReset(t *testing.T) {
	for _, from := range allWords {
		want := coming{from, 0, 0, "gone"}
		switch read(from).state {
		case "new":
			want.to = "idle"
		case "idle", "gone", "down", "lost":
			want = coming{from, 0, api.ErrClosed, ""}
		}
		wantComing(t, api.Event{Kind: api.EvReset}, want)
		wantComing(t, junk(api.EvReset), want)
	}
}

// 15.1: a client that was reset while it was new is not accepted, and may be opened again; one that was accepted may not, till it is closed.
func TestResetAndOpenAgain(t *testing.T) {
	p := laid(t, 4, []string{"new =ab +5 < >", "open =ab +5 < >"}, nil)
	come(t, p, api.EvReset, 0)
	come(t, p, api.EvReset, 1)
	wantNoAccept(t, p, api.ErrNone)
	wantEvent(t, p, api.Event{Kind: api.EvOpen, End: 1}, 0, api.ErrBusy)
	come(t, p, api.EvOpen, 0)
	wantErr(t, "Close", p.Close(1), api.OK)
	come(t, p, api.EvOpen, 1)
	for end := range 2 {
		if got := written(p, end); got != "new" {
			t.Errorf("%d is %s when it is opened again", end, got)
		}
	}
	wantOuts(t, p)
}

// 15.1: room is added up, to MaxTick at most, while the endpoint is open; this side's end hides it.
func TestEvRoom(t *testing.T) {
	room := func(n int) api.Event { return api.Event{Kind: api.EvRoom, N: n, Data: strings.Repeat("x", 600)} }
	wantComing(t, room(0), coming{"open", 0, 0, "open"}, coming{"open +5", 0, 0, ""}, coming{"new =ab +5", 0, 0, ""})
	wantComing(t, room(1),
		coming{"open", 0, 0, "open +1"},
		coming{"was open", 0, 0, "open +1"},
		coming{"open +5", 0, 0, "open +6"},
		coming{"open =abcd +5 <", 0, 0, "open =abcd +6 <"},
		coming{"open +5 >", 0, 0, "open >"},
		coming{"open =ab < >", 0, 0, "open =ab < >"},
		coming{"new =ab", 0, 0, "new =ab +1"},
		coming{"new +5 <", 0, 0, "new +6 <"},
		coming{"new >", 0, 0, ""},
		coming{"open +1099511627774", 0, 0, "open +1099511627775"},
		coming{"open +1099511627775", 0, 0, "open +1099511627776"},
		coming{"open +1099511627776", 0, 0, ""},
	)
	for _, n := range []int{api.MaxTick, api.MaxTick + 1, math.MaxInt - 1, math.MaxInt} {
		wantComing(t, room(n), coming{"open", 0, 0, "open +1099511627776"}, coming{"new +5", 0, 0, "new +1099511627776"}, coming{"open =ab +1099511627776 <", 0, 0, ""})
	}
	wantComing(t, room(api.MaxTick-6), coming{"open +5", 0, 0, "open +1099511627775"}, coming{"open +6", 0, 0, "open +1099511627776"}, coming{"open +7", 0, 0, "open +1099511627776"})
	for _, from := range allWords {
		for _, n := range []int{-1, math.MinInt} {
			wantComing(t, room(n), coming{from, 0, api.ErrArg, ""})
		}
		switch read(from).state {
		case "idle", "dialled", "gone", "down", "lost":
			for _, n := range []int{0, 1, math.MaxInt} {
				wantComing(t, room(n), coming{from, 0, api.ErrClosed, ""})
			}
		}
	}
}

// 15.1: room that goes over MaxTick is lost, and not room for later.
func TestRoomOverMaxTick(t *testing.T) {
	p := laid(t, 4, []string{"open"}, nil)
	giveRoom(t, p, 0, api.MaxTick)
	giveRoom(t, p, 0, 100)
	wantSend(t, p, 0, "abc", 3)
	wantInt(t, "Room", p.Room(0), api.MaxTick-3)
	giveRoom(t, p, 0, 2)
	wantInt(t, "Room", p.Room(0), api.MaxTick-1)
	giveRoom(t, p, 0, math.MaxInt)
	wantInt(t, "Room", p.Room(0), api.MaxTick)
}

// 15.1: a server that is dialled is open with nothing in it, or gone; any other one is neither. At a client they are ErrArg.
func TestEvUpAndEvDown(t *testing.T) {
	for _, from := range allWords {
		for _, s := range scenes(t, from) {
			for _, kind := range []int{api.EvUp, api.EvDown} {
				wrong := api.ErrClosed
				if s.end < clientsOf(s) {
					wrong = api.ErrArg
				}
				if read(from).state == "dialled" {
					continue
				}
				for _, e := range []api.Event{{Kind: kind}, junk(kind)} {
					e.End = s.end
					wantKept(t, fmt.Sprintf("event %d at %s", kind, from), s.p, func() { wantEvent(t, s.p, e, 0, wrong) })
				}
			}
		}
	}
	for _, from := range []string{"dialled", "was dialled"} {
		wantComing(t, api.Event{Kind: api.EvUp}, coming{from, 0, 0, "open"})
		wantComing(t, junk(api.EvUp), coming{from, 0, 0, "open"})
		wantComing(t, api.Event{Kind: api.EvDown}, coming{from, 0, 0, "gone"})
		wantComing(t, junk(api.EvDown), coming{from, 0, 0, "gone"})
	}
}

// 15.1: a server that is up is not new: nobody accepts it.
func TestUpIsNotNew(t *testing.T) {
	p := laid(t, 4, []string{"idle"}, []string{"dialled"})
	come(t, p, api.EvUp, 1)
	wantNoAccept(t, p, api.ErrNone)
	come(t, p, api.EvReset, 1)
	wantState(t, p, 1, port.Gone, api.OK)
}

// 15.1: a datagram goes behind the others in the box, of which there are up to 8; a ninth one is ErrFull, a long one ErrArg even then.
func TestEvGram(t *testing.T) {
	for there := range 9 {
		for _, size := range []int{0, 1, 2, api.MaxGram - 1, api.MaxGram, api.MaxGram + 1, api.MaxBytes} {
			p := laid(t, 4, []string{"open =a"}, []string{"dialled"})
			var want []string
			for i := range there {
				want = append(want, fmt.Sprint("gram ", i))
				addGram(t, p, 2, want[i])
			}
			e := api.Event{Kind: api.EvGram, End: 2, N: -1, Data: strings.Repeat("\xff", size)}
			switch {
			case size > 512:
				wantKept(t, "a long datagram", p, func() { wantEvent(t, p, e, 0, api.ErrArg) })
			case there == 8:
				wantKept(t, "one datagram more", p, func() { wantEvent(t, p, e, 0, api.ErrFull) })
			default:
				wantEvent(t, p, e, 0, api.OK)
				want = append(want, e.Data)
			}
			for _, text := range want {
				wantGram(t, p, text)
			}
			wantNoGram(t, p, api.ErrNone)
			wantOuts(t, p)
			wantInt(t, "Used", p.Used(), 1)
		}
	}
}

// ErrArg, ahead of all else: an endpoint that there is not, or that is of another sort than the kind is for, and a kind that there is not.
func TestWrongEndsAndKinds(t *testing.T) {
	p := laid(t, 4, []string{"idle", "new =ab", "open =ab +5 <", "gone"}, []string{"idle", "dialled", "open =ab +5", "gone"})
	for i := range 8 {
		addGram(t, p, 8, fmt.Sprint(i))
	}
	kinds := []int{math.MinInt, -1, 0, 1, 2, 3, 4, 5, 6, 7, 8, 9, 10, 11, 12, 13, 256 + 1, math.MaxInt}
	ends := []int{math.MinInt, -2, -1, 0, 1, 2, 3, 4, 5, 6, 7, 8, 9, 10, 64, 1 << 32, 1<<32 + 8, math.MaxInt}
	for _, kind := range kinds {
		for _, end := range ends {
			client, server, box := end >= 0 && end <= 3, end >= 4 && end <= 7, end == 8
			right := false
			switch kind {
			case 1:
				right = client
			case 2, 3, 4, 5:
				right = client || server
			case 6, 7:
				right = server
			case 8:
				right = box
			}
			for _, e := range []api.Event{{Kind: kind, End: end}, {Kind: kind, End: end, N: 1, Data: "x", Rules: []api.Rule{{}}}} {
				if right {
					if _, err := p.Clone().Event(e); err == api.ErrArg {
						t.Errorf("event %d at %d: %v", kind, end, err)
					}
					continue
				}
				wantKept(t, fmt.Sprintf("event %d at %d", kind, end), p, func() { wantEvent(t, p, e, 0, api.ErrArg) })
			}
		}
	}
}

// The same in ports that lack a sort: then the number of one that is not there is another one's.
func TestSortsThatAreNotThere(t *testing.T) {
	for _, c := range []struct{ clients, servers int }{{0, 0}, {1, 0}, {0, 1}, {api.MaxEnds, 0}, {0, api.MaxEnds}, {api.MaxEnds, api.MaxEnds}} {
		p := made(t, c.clients, c.servers, 4)
		box := c.clients + c.servers
		for _, end := range []int{-1, 0, c.clients - 1, c.clients, box - 1, box, box + 1} {
			client, server := end >= 0 && end < c.clients, end >= c.clients && end < box
			for kind := api.EvOpen; kind <= api.EvGram; kind++ {
				want := api.ErrArg
				switch {
				case kind == api.EvOpen && client, kind == api.EvGram && end == box:
					want = api.OK
				case kind >= api.EvData && kind <= api.EvRoom && (client || server), kind >= api.EvUp && kind <= api.EvDown && server:
					want = api.ErrClosed
				}
				wantEvent(t, p.Clone(), api.Event{Kind: kind, End: end}, 0, want)
			}
		}
	}
}

// Bytes of all sorts come in, and are the same bytes.
func TestAllBytes(t *testing.T) {
	var all []byte
	for i := range 256 {
		all = append(all, byte(i))
	}
	p := laid(t, 256, []string{"open"}, []string{"open"})
	for end := range 2 {
		bring(t, p, end, string(all))
		wantText(t, "Peek", p.Peek(end, 256), string(all))
		wantText(t, "Take", p.Take(end, 256), string(all))
		giveRoom(t, p, end, 256)
		wantSend(t, p, end, string(all), 256)
	}
	addGram(t, p, 2, string(all))
	wantGram(t, p, string(all))
	wantErr(t, "Post", p.Post(all), api.OK)
	for i, o := range p.Outs() {
		if o.Data != string(all) || o.End != i {
			t.Errorf("output %d is %v", i, o)
		}
	}
}
