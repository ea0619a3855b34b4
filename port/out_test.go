package port_test

import (
	"fmt"
	"math"
	"strings"
	"testing"

	"sallyport/api"
	"sallyport/port"
)

// 15.3: as many bytes as there is room for go out in one output, and the room is less; where there is none, no output goes out.
func TestRoomAndSend(t *testing.T) {
	for _, from := range allWords {
		w := read(from)
		room := 0
		if (w.state == "new" || w.state == "open") && !w.this {
			room = w.room
		}
		for _, size := range []int{0, 1, room - 1, room, room + 1, api.MaxBytes + 1} {
			if size < 0 {
				continue
			}
			n := min(size, room)
			text := strings.Repeat("sent.", size/5+1)[:size]
			var outs []api.Out
			if n > 0 {
				outs = []api.Out{{Kind: api.OData, Data: text[:n]}}
			}
			then := read(w.told())
			then.room = room - n
			step(t, fmt.Sprint("Send of ", size), from, write(then), outs, func(p *port.Port, end int) {
				wantInt(t, "Room", p.Room(end), room)
				wantSend(t, p, end, text, n)
				wantInt(t, "Room", p.Room(end), room-n)
			})
		}
		step(t, "Send of nil", from, "", nil, func(p *port.Port, end int) {
			wantInt(t, "Send", p.Send(end, nil), 0)
		})
	}
}

// 15.3: what is sent by pieces is an output each, till the room is used up.
func TestSendByPieces(t *testing.T) {
	p := laid(t, 4, []string{"open +5"}, []string{"open +2"})
	wantSend(t, p, 0, "ab", 2)
	wantSend(t, p, 1, "12", 2)
	wantSend(t, p, 1, "3", 0)
	wantSend(t, p, 0, "cdefg", 3)
	wantSend(t, p, 0, "h", 0)
	giveRoom(t, p, 0, 0)
	wantSend(t, p, 0, "h", 0)
	giveRoom(t, p, 0, 2)
	giveRoom(t, p, 1, 1)
	wantSend(t, p, 1, "3", 1)
	wantSend(t, p, 0, "h", 1)
	wantSend(t, p, 0, "", 0)
	wantOuts(t, p,
		api.Out{Kind: api.OData, End: 0, Data: "ab"},
		api.Out{Kind: api.OData, End: 1, Data: "12"},
		api.Out{Kind: api.OData, End: 0, Data: "cde"},
		api.Out{Kind: api.OData, End: 1, Data: "3"},
		api.Out{Kind: api.OData, End: 0, Data: "h"},
	)
	wantInt(t, "Room", p.Room(0), 1)
	wantOuts(t, p)
}

// 15.3: what goes out is not bound by the ring, but by the room alone.
func TestSendMuch(t *testing.T) {
	p := laid(t, 1, []string{"open"}, nil)
	giveRoom(t, p, 0, 3*api.MaxBytes)
	text := strings.Repeat("much ", api.MaxBytes)
	wantSend(t, p, 0, text, 3*api.MaxBytes)
	wantOuts(t, p, api.Out{Kind: api.OData, Data: text[:3*api.MaxBytes]})
}

// 15.3: this side ends once, while it is open, whatever the other one did, and without any room.
func TestFin(t *testing.T) {
	for _, from := range allWords {
		w := read(from)
		if w.state != "new" && w.state != "open" || w.this {
			step(t, "Fin", from, "", nil, func(p *port.Port, end int) {
				wantErr(t, "Fin", p.Fin(end), api.ErrClosed)
			})
			continue
		}
		w.this = true
		step(t, "Fin", from, w.told(), []api.Out{{Kind: api.OFin}}, func(p *port.Port, end int) {
			wantErr(t, "Fin", p.Fin(end), api.OK)
			wantErr(t, "Fin", p.Fin(end), api.ErrClosed)
			wantInt(t, "Room", p.Room(end), 0)
			wantSend(t, p, end, "x", 0)
		})
	}
}

// 15.3: what is not idle is idle, with nothing in it; it is reset, unless it is gone or both sides have ended.
func TestClose(t *testing.T) {
	for _, from := range allWords {
		w := read(from)
		var outs []api.Out
		switch {
		case w.state == "idle":
			step(t, "Close", from, "", nil, func(p *port.Port, end int) {
				wantErr(t, "Close", p.Close(end), api.ErrClosed)
			})
			continue
		case w.state == "dialled", (w.state == "new" || w.state == "open") && !(w.other && w.this):
			outs = []api.Out{{Kind: api.OReset}}
		}
		step(t, "Close", from, "idle", outs, func(p *port.Port, end int) {
			wantErr(t, "Close", p.Close(end), api.OK)
			wantErr(t, "Close", p.Close(end), api.ErrClosed)
		})
	}
}

// 15.3: of a connection that was closed nothing is left in the next one: neither bytes nor room nor an end, by which a reset would not go out.
func TestCloseAndAgain(t *testing.T) {
	for _, from := range []string{"open =ab +5 < >", "open =ab +5 <", "open =ab +5 >", "gone =ab +5 < >"} {
		p := laid(t, 4, []string{from}, []string{from})
		for end := range 2 {
			wantErr(t, "Close", p.Close(end), api.OK)
		}
		p.Outs()
		come(t, p, api.EvOpen, 0)
		wantDial(t, p, dest(1), 1)
		wantErr(t, "Close", p.Clone().Close(1), api.OK)
		wantOuts(t, p, api.Out{Kind: api.ODial, End: 1, Dest: dest(1)})
		c := p.Clone()
		wantErr(t, "Close", c.Close(0), api.OK)
		wantErr(t, "Close", c.Close(1), api.OK)
		wantOuts(t, c, api.Out{Kind: api.OReset, End: 0}, api.Out{Kind: api.OReset, End: 1})
		come(t, p, api.EvUp, 1)
		if got := written(p, 0) + ", " + written(p, 1); got != "new, open" {
			t.Errorf("behind %s: %s, want new, open", from, got)
		}
	}
}

// 15.3: the least idle server is dialled.
func TestDial(t *testing.T) {
	for _, c := range []struct {
		servers []string
		want    []int
	}{
		{nil, nil},
		{[]string{"idle"}, []int{2}},
		{[]string{"was idle"}, []int{2}},
		{[]string{"dialled"}, nil},
		{[]string{"open", "gone", "down", "lost", "dialled", "open < >", "gone < >"}, nil},
		{[]string{"idle", "idle", "idle"}, []int{2, 3, 4}},
		{[]string{"open", "idle", "gone", "was idle", "dialled", "idle"}, []int{3, 5, 7}},
	} {
		p := laid(t, 4, []string{"idle", "new"}, c.servers)
		var outs []api.Out
		for i, end := range c.want {
			before := stands(p, end)
			wantDial(t, p, dest(byte(i)), end)
			if got := written(p, end); got != "dialled" || stands(p, end) != before {
				t.Errorf("%v: server %d is %s behind Dial", c.servers, end, got)
			}
			outs = append(outs, api.Out{Kind: api.ODial, End: end, Dest: dest(byte(i))})
		}
		wantKept(t, "Dial", p, func() { wantNoDial(t, p, dest(9), api.ErrFull) })
		wantOuts(t, p, outs...)
	}
}

// 15.3: a server that was closed is idle again, and dialled again where it is the least.
func TestDialAgain(t *testing.T) {
	p := laid(t, 4, nil, []string{"open =ab +5 < >", "gone", "dialled"})
	wantNoDial(t, p, dest(1), api.ErrFull)
	wantErr(t, "Close", p.Close(2), api.OK)
	wantErr(t, "Close", p.Close(0), api.OK)
	wantDial(t, p, dest(2), 0)
	wantErr(t, "Close", p.Close(1), api.OK)
	wantDial(t, p, dest(3), 1)
	wantDial(t, p, dest(4), 2)
	wantNoDial(t, p, dest(5), api.ErrFull)
	wantOuts(t, p,
		api.Out{Kind: api.OReset, End: 2},
		api.Out{Kind: api.ODial, End: 0, Dest: dest(2)},
		api.Out{Kind: api.ODial, End: 1, Dest: dest(3)},
		api.Out{Kind: api.ODial, End: 2, Dest: dest(4)},
	)
}

// 15.3: a port from 1 to 65535 at any address, and no name; that is told ahead of there being no server.
func TestDialDest(t *testing.T) {
	addrs := []api.Addr{{}, {A: 10, B: 1, C: 2, D: 3}, {A: 255, B: 255, C: 255, D: 255}}
	for _, servers := range [][]string{{"idle"}, {"gone"}, nil} {
		p := laid(t, 4, []string{"idle"}, servers)
		for _, addr := range addrs {
			for _, name := range []string{"", "a", "a.b", "10.0.0.1", " ", "\x00"} {
				for _, number := range []int{math.MinInt, -1, 0, 1, 2, 80, 65534, 65535, 65536, 65536 + 80, 1<<32 + 80, math.MaxInt} {
					d := api.Dest{Host: api.Host{Addr: addr, Name: name}, Port: number}
					switch {
					case name != "" || number < 1 || number > 65535:
						wantKept(t, "Dial", p, func() { wantNoDial(t, p, d, api.ErrArg) })
					case len(servers) == 1 && servers[0] == "idle":
						c := p.Clone()
						wantDial(t, c, d, 1)
						wantOuts(t, c, api.Out{Kind: api.ODial, End: 1, Dest: d})
					default:
						wantKept(t, "Dial", p, func() { wantNoDial(t, p, d, api.ErrFull) })
					}
				}
			}
		}
	}
}

// 15.3: a datagram of up to MaxGram bytes goes out at the box, whatever is in it.
func TestPost(t *testing.T) {
	for _, c := range []struct{ clients, servers []string }{{nil, nil}, {[]string{"open"}, nil}, {[]string{"open =ab", "new"}, []string{"dialled"}}} {
		box := len(c.clients) + len(c.servers)
		for _, size := range []int{0, 1, 2, api.MaxGram - 1, api.MaxGram, api.MaxGram + 1, api.MaxBytes} {
			p := laid(t, 4, c.clients, c.servers)
			addGram(t, p, box, "there")
			text := strings.Repeat("post.", size/5+1)[:size]
			if size > 512 {
				wantKept(t, "Post", p, func() { wantErr(t, "Post", p.Post([]byte(text)), api.ErrArg) })
				continue
			}
			before := stands(p, -1)
			for range 20 {
				wantErr(t, "Post", p.Post([]byte(text)), api.OK)
			}
			outs := p.Outs()
			wantInt(t, "outputs", len(outs), 20)
			for _, o := range outs {
				if o != (api.Out{Kind: api.OGram, End: box, Data: text}) {
					t.Errorf("Post of %d bytes: %.99v", size, o)
				}
			}
			if stands(p, -1) != before {
				t.Error("Post changes the port")
			}
		}
	}
	p := made(t, 0, 0, 1)
	wantErr(t, "Post of nil", p.Post(nil), api.OK)
	wantOuts(t, p, api.Out{Kind: api.OGram})
}

// 15.3: outputs of all kinds come in the order in which they went out, and not a second time.
func TestOuts(t *testing.T) {
	p := laid(t, 4, []string{"open =ab +5", "open < >", "gone"}, []string{"idle", "open +9"})
	wantOuts(t, p)
	wantErr(t, "Post", p.Post([]byte("p")), api.OK)
	wantDial(t, p, dest(7), 3)
	wantSend(t, p, 4, "to", 2)
	wantSend(t, p, 0, "abcdefg", 5)
	wantSend(t, p, 0, "h", 0)
	wantErr(t, "Fin", p.Fin(0), api.OK)
	wantErr(t, "Fin", p.Fin(1), api.ErrClosed)
	wantErr(t, "Close", p.Close(1), api.OK)
	wantErr(t, "Close", p.Close(2), api.OK)
	wantErr(t, "Close", p.Close(0), api.OK)
	come(t, p, api.EvUp, 3)
	wantErr(t, "Close", p.Close(3), api.OK)
	before := stands(p, -1)
	wantOuts(t, p,
		api.Out{Kind: api.OGram, End: 5, Data: "p"},
		api.Out{Kind: api.ODial, End: 3, Dest: dest(7)},
		api.Out{Kind: api.OData, End: 4, Data: "to"},
		api.Out{Kind: api.OData, End: 0, Data: "abcde"},
		api.Out{Kind: api.OFin, End: 0},
		api.Out{Kind: api.OReset, End: 0},
		api.Out{Kind: api.OReset, End: 3},
	)
	for range 2 {
		wantOuts(t, p)
	}
	wantSend(t, p, 4, "more", 4)
	wantOuts(t, p, api.Out{Kind: api.OData, End: 4, Data: "more"})
	wantOuts(t, p)
	giveRoom(t, p, 4, 4)
	if stands(p, -1) != before {
		t.Error("Outs changes the port")
	}
}

// What only comes in, or is only asked, lets nothing go out.
func TestNothingGoesOut(t *testing.T) {
	for _, from := range allWords {
		for _, s := range scenes(t, from) {
			s.p.Outs()
			for kind := api.EvOpen; kind <= api.EvGram; kind++ {
				for end := range count(s.p) + 1 {
					c := s.p.Clone()
					c.Event(api.Event{Kind: kind, End: end, N: 9, Data: "x"})
					wantOuts(t, c)
				}
			}
			stands(s.p, -1)
			s.p.Accept()
			s.p.Gram()
			s.p.Take(s.end, 9)
			wantOuts(t, s.p)
		}
	}
}
