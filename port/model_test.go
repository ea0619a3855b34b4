package port_test

import (
	"fmt"
	"math"
	"math/rand"
	"slices"
	"strings"
	"testing"

	"sallyport/api"
	"sallyport/port"
)

// modelEnd is an endpoint as the chapter's words have it.
type modelEnd struct {
	client, isNew bool
	state         string
	in            string
	room          int
	other, this   bool
}

func (m *modelEnd) opened() {
	m.state, m.in, m.room, m.other, m.this = "open", "", 0, false, false
}

func (m *modelEnd) emptied(state string) {
	m.state, m.in, m.room, m.isNew = state, "", 0, false
}

// model is what the chapter says, said plainly.
type model struct {
	size  int
	ends  []modelEnd
	grams []string
	outs  []api.Out
}

func newModel(clients, servers, size int) *model {
	m := &model{size: size, ends: make([]modelEnd, clients+servers)}
	for i := range m.ends {
		m.ends[i] = modelEnd{client: i < clients, state: "idle"}
	}
	return m
}

func (m *model) clone() *model {
	c := *m
	c.ends, c.grams, c.outs = slices.Clone(m.ends), slices.Clone(m.grams), slices.Clone(m.outs)
	return &c
}

// end is nil for the box, and for what there is not.
func (m *model) end(end int) *modelEnd {
	if end < 0 || end >= len(m.ends) {
		return nil
	}
	return &m.ends[end]
}

// event goes by the chapter's words one kind after the other.
func (m *model) event(e api.Event) (int, api.Errno) {
	x := m.end(e.End)
	switch {
	case e.Kind < api.EvOpen || e.Kind > api.EvGram:
		return 0, api.ErrArg
	case e.Kind == api.EvGram:
		if e.End != len(m.ends) || len(e.Data) > 512 {
			return 0, api.ErrArg
		}
		if len(m.grams) >= 8 {
			return 0, api.ErrFull
		}
		m.grams = append(m.grams, e.Data)
		return 0, api.OK
	case x == nil:
		return 0, api.ErrArg
	}
	switch e.Kind {
	case api.EvOpen:
		return 0, x.evOpen()
	case api.EvData:
		return x.evData(e.Data, m.size)
	case api.EvFin:
		if x.state != "open" || x.other {
			return 0, api.ErrClosed
		}
		x.other = true
	case api.EvReset:
		return 0, x.evReset()
	case api.EvRoom:
		return 0, x.evRoom(e.N)
	default:
		return 0, x.evDialled(e.Kind)
	}
	return 0, api.OK
}

func (m *modelEnd) evOpen() api.Errno {
	if !m.client {
		return api.ErrArg
	}
	if m.state != "idle" {
		return api.ErrBusy
	}
	m.opened()
	m.isNew = true
	return api.OK
}

func (m *modelEnd) evData(data string, size int) (int, api.Errno) {
	if m.state != "open" || m.other {
		return 0, api.ErrClosed
	}
	was := len(m.in)
	m.in += data
	if len(m.in) > size {
		m.in = m.in[:size]
	}
	return len(m.in) - was, api.OK
}

func (m *modelEnd) evReset() api.Errno {
	if m.state == "idle" || m.state == "gone" {
		return api.ErrClosed
	}
	if m.isNew {
		m.emptied("idle")
	} else {
		m.emptied("gone")
	}
	return api.OK
}

func (m *modelEnd) evRoom(n int) api.Errno {
	if n < 0 {
		return api.ErrArg
	}
	if m.state != "open" {
		return api.ErrClosed
	}
	if n > api.MaxTick {
		n = api.MaxTick
	}
	m.room += n
	if m.room > api.MaxTick {
		m.room = api.MaxTick
	}
	return api.OK
}

func (m *modelEnd) evDialled(kind int) api.Errno {
	if m.client {
		return api.ErrArg
	}
	if m.state != "dialled" {
		return api.ErrClosed
	}
	if kind == api.EvUp {
		m.opened()
	} else {
		m.emptied("gone")
	}
	return api.OK
}

func (m *model) accept() (int, api.Errno) {
	for i := range m.ends {
		if m.ends[i].isNew {
			m.ends[i].isNew = false
			return i, api.OK
		}
	}
	return 0, api.ErrNone
}

func (m *model) room(end int) int {
	if x := m.end(end); x != nil && x.state == "open" && !x.this {
		return x.room
	}
	return 0
}

func (m *model) send(end int, text string) int {
	n := m.room(end)
	if n > len(text) {
		n = len(text)
	}
	if n > 0 {
		m.outs = append(m.outs, api.Out{Kind: api.OData, End: end, Data: text[:n]})
		m.ends[end].room -= n
	}
	return n
}

func (m *model) fin(end int) api.Errno {
	x := m.end(end)
	if x == nil {
		return api.ErrArg
	}
	if x.state != "open" || x.this {
		return api.ErrClosed
	}
	m.outs = append(m.outs, api.Out{Kind: api.OFin, End: end})
	x.this = true
	return api.OK
}

func (m *model) close(end int) api.Errno {
	x := m.end(end)
	if x == nil {
		return api.ErrArg
	}
	if x.state == "idle" {
		return api.ErrClosed
	}
	if x.state == "dialled" || x.state == "open" && (!x.other || !x.this) {
		m.outs = append(m.outs, api.Out{Kind: api.OReset, End: end})
	}
	x.emptied("idle")
	return api.OK
}

func (m *model) dial(d api.Dest) (int, api.Errno) {
	if d.Port < 1 || d.Port > 65535 || d.Host.Name != "" {
		return 0, api.ErrArg
	}
	for i := range m.ends {
		if !m.ends[i].client && m.ends[i].state == "idle" {
			m.ends[i].state = "dialled"
			m.outs = append(m.outs, api.Out{Kind: api.ODial, End: i, Dest: d})
			return i, api.OK
		}
	}
	return 0, api.ErrFull
}

func (m *model) post(text string) api.Errno {
	if len(text) > 512 {
		return api.ErrArg
	}
	m.outs = append(m.outs, api.Out{Kind: api.OGram, End: len(m.ends), Data: text})
	return api.OK
}

// pair is a port beside its model.
type pair struct {
	p *port.Port
	m *model
}

func newPair(t *testing.T, clients, servers, size int) pair {
	t.Helper()
	return pair{made(t, clients, servers, size), newModel(clients, servers, size)}
}

func (x pair) clone() pair {
	return pair{x.p.Clone(), x.m.clone()}
}

func (x pair) event(t *testing.T, e api.Event) {
	t.Helper()
	n, err := x.m.event(e)
	wantEvent(t, x.p, e, n, err)
}

func (x pair) accept(t *testing.T) {
	t.Helper()
	if end, e := x.m.accept(); e == api.OK {
		wantAccept(t, x.p, end)
	} else {
		wantNoAccept(t, x.p, e)
	}
}

func (x pair) take(t *testing.T, end, n int) {
	t.Helper()
	want := ""
	if m := x.m.end(end); m != nil {
		k := max(0, min(n, len(m.in)))
		want, m.in = m.in[:k], m.in[k:]
	}
	wantText(t, "Peek", x.p.Peek(end, n), want)
	wantText(t, "Take", x.p.Take(end, n), want)
}

func (x pair) send(t *testing.T, end int, text string) {
	t.Helper()
	wantSend(t, x.p, end, text, x.m.send(end, text))
}

func (x pair) dial(t *testing.T, d api.Dest) {
	t.Helper()
	if end, e := x.m.dial(d); e == api.OK {
		wantDial(t, x.p, d, end)
	} else {
		wantNoDial(t, x.p, d, e)
	}
}

func (x pair) gram(t *testing.T) {
	t.Helper()
	if len(x.m.grams) == 0 {
		wantNoGram(t, x.p, api.ErrNone)
		return
	}
	wantGram(t, x.p, x.m.grams[0])
	x.m.grams = x.m.grams[1:]
}

func (x pair) outs(t *testing.T) {
	t.Helper()
	wantOuts(t, x.p, x.m.outs...)
	x.m.outs = nil
}

// check holds all that a port tells of its endpoints against the model.
func (x pair) check(t *testing.T) {
	t.Helper()
	states := map[string]int{"idle": 0, "open": 1, "dialled": 2, "gone": 3}
	used := 0
	for end := -1; end <= len(x.m.ends)+1; end++ {
		m, err := x.m.end(end), api.OK
		if m == nil {
			m, err = &modelEnd{state: "idle"}, api.ErrArg
		}
		used += len(m.in)
		wantState(t, x.p, end, states[m.state], err)
		wantInt(t, "Waiting", x.p.Waiting(end), len(m.in))
		wantText(t, "Peek", x.p.Peek(end, x.m.size+1), m.in)
		wantBool(t, "Last", x.p.Last(end), m.state == "open" && m.other)
		wantBool(t, "Ended", x.p.Ended(end), m.state == "open" && m.other && m.in == "")
		wantInt(t, "Room", x.p.Room(end), x.m.room(end))
	}
	wantInt(t, "Used", x.p.Used(), used)
}

// checkLists holds what can be told but once, on a clone.
func (x pair) checkLists(t *testing.T) {
	t.Helper()
	c := x.clone()
	c.outs(t)
	c.outs(t)
	for range len(c.m.grams) + 1 {
		c.gram(t)
	}
	for range len(c.m.ends) + 1 {
		c.accept(t)
	}
}

// How many short calls there are at each endpoint, and how many that are at none.
const callsAt, callsBeside = 13, 5

// call is the how manieth of all short calls at the endpoints of a port.
func (x pair) call(t *testing.T, which int) {
	t.Helper()
	box := len(x.m.ends)
	end := which / callsAt
	if end >= box {
		x.callBeside(t, which-callsAt*box)
		return
	}
	switch k := which % callsAt; k {
	case 0, 1, 2, 3, 4, 5, 6:
		x.event(t, api.Event{Kind: api.EvOpen + k, End: end, N: 2, Data: "ab"})
	case 7:
		x.event(t, api.Event{Kind: api.EvData, End: end, Data: "c"})
	case 8:
		x.take(t, end, 1)
	case 9:
		x.take(t, end, 3)
	case 10:
		x.send(t, end, "x")
	case 11:
		wantErr(t, "Fin", x.p.Fin(end), x.m.fin(end))
	default:
		wantErr(t, "Close", x.p.Close(end), x.m.close(end))
	}
}

func (x pair) callBeside(t *testing.T, which int) {
	t.Helper()
	switch which {
	case 0:
		x.accept(t)
	case 1:
		x.dial(t, dest(1))
	case 2:
		x.event(t, api.Event{Kind: api.EvGram, End: len(x.m.ends), Data: "g"})
	case 3:
		x.gram(t)
	default:
		wantErr(t, "Post", x.p.Post([]byte("p")), x.m.post("p"))
	}
}

// 15.1 to 15.4: all rows of a few calls, on small ports that are new; on a clone each, so that Clone is looked at too.
func TestAllShortRows(t *testing.T) {
	for _, c := range []struct{ clients, servers, depth int }{{0, 0, 5}, {1, 0, 4}, {0, 1, 4}, {1, 1, 3}, {2, 1, 2}, {1, 2, 2}} {
		walk(t, newPair(t, c.clients, c.servers, 3), c.depth)
	}
}

// 15.1 to 15.4: the same where a client and a server stand in each of many ways already, by short calls of these numbers.
func TestAllShortRowsBehind(t *testing.T) {
	some := [][]int{{}, {4}, {1}, {4, 1, 2}, {11}, {2, 11}, {7, 11, 2}, {3}, {12}}
	for i, client := range some {
		for j, server := range some {
			x := newPair(t, 1, 1, 3)
			x.call(t, 0)
			if i%2 == j%2 {
				x.accept(t)
			}
			x.dial(t, dest(1))
			if i != 4 {
				x.call(t, callsAt+5) // else it stays dialled
			}
			for _, k := range client {
				x.call(t, k)
			}
			for _, k := range server {
				x.call(t, callsAt+k)
			}
			walk(t, x, 2)
		}
	}
}

func walk(t *testing.T, x pair, depth int) {
	t.Helper()
	x.check(t)
	x.checkLists(t)
	if depth == 0 || t.Failed() {
		return
	}
	for which := range callsAt*len(x.m.ends) + callsBeside {
		next := x.clone()
		next.call(t, which)
		if t.Failed() {
			t.Fatalf("above: call %d", which)
		}
		walk(t, next, depth-1)
	}
}

// drawnEvent is an event of a kind that there is, mostly, at an endpoint that is mostly one for it.
func drawnEvent(draw *rand.Rand, m *model, serial int) api.Event {
	box := len(m.ends)
	e := api.Event{Kind: 1 + draw.Intn(8), End: draw.Intn(box + 1), N: draw.Intn(6) - 1}
	if draw.Intn(3) == 0 {
		e.Kind = api.EvData
	}
	switch {
	case draw.Intn(30) == 0:
		e.Kind = draw.Intn(16) - 2
	case draw.Intn(30) == 0:
		e.End = []int{-1, box + 1, math.MinInt, math.MaxInt}[draw.Intn(4)]
	case draw.Intn(30) == 0:
		e.N = []int{api.MaxTick, api.MaxTick - 3, math.MaxInt, math.MinInt}[draw.Intn(4)]
	case e.Kind == api.EvGram:
		e.End = box
	case e.Kind == api.EvReset && draw.Intn(3) > 0:
		e.Kind = api.EvRoom
	case e.Kind == api.EvFin && draw.Intn(3) > 0:
		e.Kind = api.EvUp
	}
	e.Data = drawnText(draw, m.size+2, serial)
	if e.Kind == api.EvGram && draw.Intn(10) == 0 {
		e.Data = strings.Repeat("g", 510+draw.Intn(5))
	}
	return e
}

// drawnText has bytes that differ from those of the texts near it.
func drawnText(draw *rand.Rand, most, serial int) string {
	n := draw.Intn(most + 1)
	var b strings.Builder
	for i := range n {
		b.WriteByte(byte(serial*7 + i))
	}
	return b.String()
}

func drawnCall(t *testing.T, x pair, draw *rand.Rand, serial int) pair {
	t.Helper()
	end := draw.Intn(len(x.m.ends)+3) - 1
	switch draw.Intn(24) {
	case 0:
		return x.clone()
	case 1, 2:
		x.accept(t)
	case 3, 4:
		x.take(t, end, draw.Intn(x.m.size+3)-1)
	case 5, 6, 7:
		x.send(t, end, drawnText(draw, 6, serial))
	case 8:
		wantErr(t, "Fin", x.p.Fin(end), x.m.fin(end))
	case 9:
		wantErr(t, "Close", x.p.Close(end), x.m.close(end))
	case 10, 11:
		d := dest(byte(serial))
		if draw.Intn(8) == 0 {
			d.Port = []int{0, 1, 65535, 65536, -1}[draw.Intn(5)]
		}
		if draw.Intn(8) == 0 {
			d.Host.Name = "a"
		}
		x.dial(t, d)
	case 12:
		x.gram(t)
	case 13:
		text := strings.Repeat("p", draw.Intn(5)+draw.Intn(2)*510)
		wantErr(t, "Post", x.p.Post([]byte(text)), x.m.post(text))
	case 14:
		if draw.Intn(3) == 0 {
			x.outs(t)
		}
	default:
		x.event(t, drawnEvent(draw, x.m, serial))
	}
	return x
}

// 15.1 to 15.4: long rows of drawn events and calls, wrong ones among them.
func TestLongRows(t *testing.T) {
	for i, c := range []struct{ clients, servers, size, steps int }{
		{0, 0, 1, 500}, {1, 0, 2, 3000}, {0, 1, 2, 3000}, {1, 1, 1, 8000}, {1, 1, 5, 8000}, {3, 2, 4, 10000}, {2, 5, 16, 10000}, {8, 8, 3, 5000}, {64, 64, 2, 1500},
	} {
		draw := rand.New(rand.NewSource(int64(100 + i)))
		x := newPair(t, c.clients, c.servers, c.size)
		for step := range c.steps {
			x = drawnCall(t, x, draw, step)
			x.check(t)
			if step%5 == 0 {
				x.checkLists(t)
			}
			if t.Failed() {
				t.Fatalf("above: %+v, step %d", c, step)
			}
		}
		x.outs(t)
	}
}

// life is what came in at an endpoint and was taken there since it was opened, the room that it was given, and how much went out.
type life struct {
	in, out    string
	room, sent int
}

// follow tells lives of what an event did, knowing nothing of the model.
func follow(lives []life, e api.Event, n int, err api.Errno) {
	if err != api.OK || e.End >= len(lives) {
		return
	}
	switch e.Kind {
	case api.EvOpen, api.EvUp:
		lives[e.End] = life{}
	case api.EvData:
		lives[e.End].in += e.Data[:n]
	case api.EvRoom:
		lives[e.End].room += min(e.N, api.MaxTick)
	}
}

// 15.5, 15.6: what is taken is a beginning of what Event took, and what goes out is no more than the room that was given: told by what came and went alone.
func TestInOrderAndNoMoreThanRoom(t *testing.T) {
	for i, c := range []struct{ clients, servers, size int }{{1, 1, 3}, {2, 2, 7}, {4, 4, 1}} {
		draw := rand.New(rand.NewSource(int64(200 + i)))
		p, m := made(t, c.clients, c.servers, c.size), newModel(c.clients, c.servers, c.size)
		lives := make([]life, c.clients+c.servers)
		taken, sent := 0, 0
		for step := range 20000 {
			end := draw.Intn(len(lives))
			x := &lives[end]
			switch draw.Intn(12) {
			case 0:
				p.Accept()
			case 1:
				p.Dial(dest(1))
			case 2, 3:
				x.out += string(p.Take(end, draw.Intn(c.size+2)))
				if !strings.HasPrefix(x.in, x.out) {
					t.Fatalf("step %d: at %d %q was taken, in came %q", step, end, x.out, x.in)
				}
				taken = max(taken, len(x.out))
			case 4, 5:
				p.Send(end, []byte(drawnText(draw, 6, step)))
			case 6:
				if draw.Intn(8) == 0 {
					p.Close(end)
				}
			default:
				e := drawnEvent(draw, m, step)
				n, err := p.Event(e)
				follow(lives, e, n, err)
			}
			sent = max(sent, wantWithinRoom(t, p, lives, step))
			if t.Failed() {
				return
			}
		}
		if taken < 10 || sent < 10 {
			t.Errorf("%+v: at most %d were taken and %d sent", c, taken, sent)
		}
	}
}

// wantWithinRoom adds up what went out, and tells the most that went out in one life.
func wantWithinRoom(t *testing.T, p *port.Port, lives []life, step int) int {
	t.Helper()
	most := 0
	for _, o := range p.Outs() {
		if o.Kind != api.OData {
			continue
		}
		x := &lives[o.End]
		x.sent += len(o.Data)
		if x.sent > x.room || o.Data == "" {
			t.Errorf("step %d: %d bytes went out at %d, room was %d", step, x.sent, o.End, x.room)
		}
		most = max(most, x.sent)
	}
	return most
}

// drawnPort is a port to which much was done.
func drawnPort(t *testing.T, draw *rand.Rand, clients, servers int) *port.Port {
	t.Helper()
	x := newPair(t, clients, servers, 1+draw.Intn(5))
	for step := range 20 + draw.Intn(60) {
		x = drawnCall(t, x, draw, step)
	}
	return x.p
}

// 15.7, 15.8: an event changes the endpoint alone that it is for, and no endpoint that is idle, but EvOpen at a client.
func TestIdleAndApart(t *testing.T) {
	draw := rand.New(rand.NewSource(300))
	idle, other := 0, 0
	for range 300 {
		clients, servers := draw.Intn(4), draw.Intn(4)
		p := drawnPort(t, draw, clients, servers)
		box := clients + servers
		for kind := api.EvOpen; kind <= api.EvGram; kind++ {
			for end := range box + 1 {
				e := api.Event{Kind: kind, End: end, N: draw.Intn(4), Data: fmt.Sprint("new", draw.Intn(100))}
				c := p.Clone()
				if state, _ := p.State(end); end < box && state == port.Idle && (kind != api.EvOpen || end >= clients) {
					idle++
					wantKept(t, "an event at an idle endpoint", c, func() { c.Event(e) })
					continue
				}
				other++
				wantApart(t, p, c, e, box)
			}
		}
		if t.Failed() {
			return
		}
	}
	if idle < 1000 || other < 1000 {
		t.Errorf("only %d events at idle endpoints, and %d at others", idle, other)
	}
}

// wantApart wants an event at c, a clone of p, to change nothing but the endpoint that it is for.
func wantApart(t *testing.T, p, c *port.Port, e api.Event, box int) {
	t.Helper()
	c.Event(e)
	before, after := stands(p, e.End), stands(c, e.End)
	if e.End == box {
		before, _, _ = strings.Cut(before, "box")
		after, _, _ = strings.Cut(after, "box")
	}
	if before != after {
		t.Errorf("event %d at %d: besides it the port stands as\n%s\nwas\n%s", e.Kind, e.End, after, before)
	}
	if !slices.Equal(p.Clone().Outs(), c.Outs()) {
		t.Errorf("event %d at %d changes the outputs", e.Kind, e.End)
	}
}
