package port_test

import (
	"fmt"
	"slices"
	"strconv"
	"strings"
	"testing"

	"sallyport/api"
	"sallyport/port"
)

// made is a new port of numbers that may be.
func made(t *testing.T, clients, servers, size int) *port.Port {
	t.Helper()
	p, e := port.New(clients, servers, size)
	if e != api.OK || p == nil {
		t.Fatalf("New(%d, %d, %d): %v, %v", clients, servers, size, p, e)
	}
	return p
}

// wantEvent wants an event to be answered so.
func wantEvent(t *testing.T, p *port.Port, e api.Event, n int, want api.Errno) {
	t.Helper()
	if k, err := p.Event(e); k != n || err != want {
		t.Errorf("Event(%d at %d, N %d, %d bytes): %d, %v, want %d, %v", e.Kind, e.End, e.N, len(e.Data), k, err, n, want)
	}
}

// come lets an event come that is not refused, and takes no bytes.
func come(t *testing.T, p *port.Port, kind, end int) {
	t.Helper()
	wantEvent(t, p, api.Event{Kind: kind, End: end}, 0, api.OK)
}

// bring lets bytes come in, all of which have room.
func bring(t *testing.T, p *port.Port, end int, text string) {
	t.Helper()
	wantEvent(t, p, api.Event{Kind: api.EvData, End: end, Data: text}, len(text), api.OK)
}

func giveRoom(t *testing.T, p *port.Port, end, n int) {
	t.Helper()
	wantEvent(t, p, api.Event{Kind: api.EvRoom, End: end, N: n}, 0, api.OK)
}

func addGram(t *testing.T, p *port.Port, box int, text string) {
	t.Helper()
	wantEvent(t, p, api.Event{Kind: api.EvGram, End: box, Data: text}, 0, api.OK)
}

func wantAccept(t *testing.T, p *port.Port, want int) {
	t.Helper()
	if end, e := p.Accept(); end != want || e != api.OK {
		t.Errorf("Accept: %d, %v, want %d", end, e, want)
	}
}

func wantNoAccept(t *testing.T, p *port.Port, want api.Errno) {
	t.Helper()
	if end, e := p.Accept(); end != 0 || e != want {
		t.Errorf("Accept: %d, %v, want %v", end, e, want)
	}
}

func wantState(t *testing.T, p *port.Port, end, want int, err api.Errno) {
	t.Helper()
	if state, e := p.State(end); state != want || e != err {
		t.Errorf("State(%d): %d, %v, want %d, %v", end, state, e, want, err)
	}
}

func wantInt(t *testing.T, what string, got, want int) {
	t.Helper()
	if got != want {
		t.Errorf("%s: %d, want %d", what, got, want)
	}
}

func wantBool(t *testing.T, what string, got, want bool) {
	t.Helper()
	if got != want {
		t.Errorf("%s: %v, want %v", what, got, want)
	}
}

func wantText(t *testing.T, what string, got []byte, want string) {
	t.Helper()
	if string(got) != want {
		t.Errorf("%s: %.40q (%d bytes), want %.40q", what, got, len(got), want)
	}
}

func wantErr(t *testing.T, what string, got, want api.Errno) {
	t.Helper()
	if got != want {
		t.Errorf("%s: %v, want %v", what, got, want)
	}
}

func wantSend(t *testing.T, p *port.Port, end int, text string, want int) {
	t.Helper()
	if n := p.Send(end, []byte(text)); n != want {
		t.Errorf("Send(%d, %.20q): %d, want %d", end, text, n, want)
	}
}

// dest is an address of that last byte, at port 80.
func dest(last byte) api.Dest {
	return api.Dest{Host: api.Host{Addr: api.Addr{A: 10, D: last}}, Port: 80}
}

func wantDial(t *testing.T, p *port.Port, d api.Dest, want int) {
	t.Helper()
	if end, e := p.Dial(d); end != want || e != api.OK {
		t.Errorf("Dial(%v): %d, %v, want %d", d, end, e, want)
	}
}

func wantNoDial(t *testing.T, p *port.Port, d api.Dest, want api.Errno) {
	t.Helper()
	if end, e := p.Dial(d); end != 0 || e != want {
		t.Errorf("Dial(%v): %d, %v, want %v", d, end, e, want)
	}
}

func wantGram(t *testing.T, p *port.Port, want string) {
	t.Helper()
	if b, e := p.Gram(); string(b) != want || e != api.OK {
		t.Errorf("Gram: %.20q (%d bytes), %v, want %.20q", b, len(b), e, want)
	}
}

func wantNoGram(t *testing.T, p *port.Port, want api.Errno) {
	t.Helper()
	if b, e := p.Gram(); len(b) != 0 || e != want {
		t.Errorf("Gram: %.20q, %v, want %v", b, e, want)
	}
}

func wantOuts(t *testing.T, p *port.Port, want ...api.Out) {
	t.Helper()
	if outs := p.Outs(); !slices.Equal(outs, want) {
		t.Errorf("Outs: %.300v, want %.300v", outs, want)
	}
}

// many is more than a port has of anything that is told one by one, so that a wrong port lets no test go on for ever.
const many = 2*api.MaxEnds + 1

// count is how many endpoints have a ring, which is the box's number too.
func count(p *port.Port) int {
	for end := range many {
		if _, e := p.State(end); e != api.OK {
			return end
		}
	}
	return many
}

// How an endpoint stands is written as a word of its state (idle, new, open, dialled, gone), and behind it where it is so
//
//	=ab bytes that wait
//	+5  room
//	<   the other side has ended
//	>   this side has ended
//
// Told is what can be told of it from without: no room of a side that has ended. To lay an endpoint so, there are some more words:
//
//	was  (ahead of all others) it had another connection, of which nothing may be left
//	down it is gone, as it could not be dialled
//	lost it is gone, as it was reset while it was dialled
//
// What stands behind gone is how it was while it was open.
type word struct {
	was         bool
	state       string
	data        string
	room        int
	other, this bool
}

func read(written string) word {
	var w word
	for _, part := range strings.Fields(written) {
		switch {
		case part == "was":
			w.was = true
		case part[0] == '=':
			w.data = part[1:]
		case part[0] == '+':
			w.room, _ = strconv.Atoi(part[1:])
		case part == "<":
			w.other = true
		case part == ">":
			w.this = true
		default:
			w.state = part
		}
	}
	return w
}

func (w word) mayBeClient() bool {
	return w.state != "dialled" && w.state != "down" && w.state != "lost"
}

func (w word) mayBeServer() bool {
	return w.state != "new"
}

// told is what is to be seen of an endpoint that was laid so.
func (w word) told() string {
	switch w.state {
	case "down", "lost", "gone":
		return "gone"
	case "idle", "dialled":
		return w.state
	}
	if w.this {
		w.room = 0
	}
	return write(w)
}

func write(w word) string {
	text := w.state
	if w.data != "" {
		text += " =" + w.data
	}
	if w.room > 0 {
		text += fmt.Sprint(" +", w.room)
	}
	if w.other {
		text += " <"
	}
	if w.this {
		text += " >"
	}
	return text
}

// written is how an endpoint stands, asked by the calls alone, and changing nothing of it.
func written(p *port.Port, end int) string {
	state, e := p.State(end)
	if e != api.OK {
		return e.Error()
	}
	w := word{data: string(p.Peek(end, api.MaxBytes)), room: p.Room(end), other: p.Last(end)}
	w.state = []string{"idle", "open", "dialled", "gone"}[state]
	if state == port.Open {
		w.this = p.Clone().Fin(end) == api.ErrClosed
		if slices.Contains(accepts(p), end) {
			w.state = "new"
		}
	}
	text := write(w)
	if p.Waiting(end) != len(w.data) || p.Ended(end) != (w.other && w.data == "") {
		text += fmt.Sprint(" (Waiting ", p.Waiting(end), ", Ended ", p.Ended(end), ")")
	}
	return text
}

// accepts is which clients Accept would tell, in order.
func accepts(p *port.Port) []int {
	var ends []int
	c := p.Clone()
	for range many {
		end, e := c.Accept()
		if e != api.OK {
			break
		}
		ends = append(ends, end)
	}
	return ends
}

// boxed is which datagrams Gram would tell, in order.
func boxed(p *port.Port) []string {
	var texts []string
	c := p.Clone()
	for range many {
		b, e := c.Gram()
		if e != api.OK {
			break
		}
		texts = append(texts, string(b))
	}
	return texts
}

// takes is how many bytes more have room, and what would go out at an end if it were closed.
func takes(p *port.Port, end int) string {
	c := p.Clone()
	n, e := c.Event(api.Event{Kind: api.EvData, End: end, Data: strings.Repeat("x", 100)})
	c = p.Clone()
	c.Outs()
	return fmt.Sprint(n, int(e), int(c.Close(end)), c.Outs())
}

// stands is all that a port could tell, but of one endpoint (-1 for none) and of the outputs.
func stands(p *port.Port, but int) string {
	var b strings.Builder
	used := 0
	for end := range count(p) {
		used += p.Waiting(end)
		if end != but {
			fmt.Fprintln(&b, end, written(p, end), takes(p, end))
		}
	}
	if used != p.Used() {
		fmt.Fprintln(&b, "Used", p.Used(), "of", used)
	}
	news := slices.DeleteFunc(accepts(p), func(end int) bool { return end == but })
	fmt.Fprintf(&b, "new %v, box %q", news, boxed(p))
	return b.String()
}

// wantKept wants what is done to leave all that the port could tell as it was.
func wantKept(t *testing.T, what string, p *port.Port, do func()) {
	t.Helper()
	before, outs := stands(p, -1), p.Clone().Outs()
	do()
	if after := stands(p, -1); after != before {
		t.Errorf("%s changes the port:\n%s\nwas\n%s", what, after, before)
	}
	if after := p.Clone().Outs(); !slices.Equal(after, outs) {
		t.Errorf("%s changes the outputs: %v, were %v", what, after, outs)
	}
}
