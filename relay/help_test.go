package relay_test

import (
	"fmt"
	"slices"
	"strconv"
	"strings"
	"testing"

	"sallyport/api"
	"sallyport/port"
	"sallyport/relay"
)

// How an endpoint stands is written as a word of its state (idle, new, open, dialled, gone), and behind it where it is so
//
//	=ab bytes that wait
//	+5  room
//	<   the other side has ended
//	>   this side has ended
//
// To lay an endpoint so, there are some more words:
//
//	closed it is idle, and was open
//	down   it is gone, as it could not be dialled
//	lost   it is gone, as it was reset while it was dialled
//
// What stands behind gone and closed is how it was while it was open.
type word struct {
	state       string
	data        string
	room        int
	other, this bool
}

func read(written string) word {
	var w word
	for _, part := range strings.Fields(written) {
		switch {
		case part[0] == '=':
			w.data = part[1:]
		case part[0] == '+':
			w.room, _ = strconv.Atoi(part[1:])
		case part == "<":
			w.other = true
		case part == ">":
			w.this = true
		default:
			w.state = part
		}
	}
	return w
}

// isOpen is so of a new client too: it is open, and was not accepted yet.
func (w word) isOpen() bool {
	return w.state == "open" || w.state == "new"
}

func (w word) isDown() bool {
	return w.state == "idle" || w.state == "gone"
}

// wasOpen tells whether the endpoint is to be opened, whatever becomes of it then.
func (w word) wasOpen() bool {
	return w.state == "open" || w.state == "gone" || w.state == "closed"
}

func (w word) mayBeClient() bool {
	return w.state != "dialled" && w.state != "down" && w.state != "lost"
}

func (w word) mayBeServer() bool {
	return w.state != "new"
}

// mayGo is how many bytes may go out.
func (w word) mayGo() int {
	if !w.isOpen() || w.this {
		return 0
	}
	return w.room
}

// String is what can be told of the endpoint from without: nothing of how it was ahead of now, and no room of a side that has ended.
func (w word) String() string {
	text := w.state
	switch text {
	case "closed":
		return "idle"
	case "down", "lost":
		return "gone"
	case "idle", "dialled", "gone":
		return text
	}
	if w.data != "" {
		text += " =" + w.data
	}
	if w.mayGo() > 0 {
		text += fmt.Sprint(" +", w.room)
	}
	if w.other {
		text += " <"
	}
	if w.this {
		text += " >"
	}
	return text
}

// many is more than there are endpoints of a port, so that a wrong one lets no test go on for ever.
const many = 2*api.MaxEnds + 1

// count is how many endpoints have a ring.
func count(p *port.Port) int {
	for end := range many {
		if _, e := p.State(end); e != api.OK {
			return end
		}
	}
	return many
}

// news is which clients are new.
func news(p *port.Port) []int {
	var ends []int
	c := p.Clone()
	for range many {
		end, e := c.Accept()
		if e != api.OK {
			break
		}
		ends = append(ends, end)
	}
	return ends
}

// written is how an endpoint stands, asked by the calls alone, and changing nothing of it.
func written(p *port.Port, end int) string {
	state, e := p.State(end)
	if e != api.OK {
		return e.Error()
	}
	w := word{data: string(p.Peek(end, api.MaxBytes)), room: p.Room(end), other: p.Last(end)}
	w.state = []string{"idle", "open", "dialled", "gone"}[state]
	if state == port.Open {
		w.this = p.Clone().Fin(end) == api.ErrClosed
		if slices.Contains(news(p), end) {
			w.state = "new"
		}
	}
	return w.String()
}

// stands is how the endpoints stand, but two of them (-1 for none), and which datagrams wait.
func stands(p *port.Port, a, b int) string {
	text := ""
	for end := range count(p) {
		if end != a && end != b {
			text += fmt.Sprintln(end, written(p, end))
		}
	}
	c := p.Clone()
	for range many {
		gram, e := c.Gram()
		if e != api.OK {
			break
		}
		text += fmt.Sprintf("box %q\n", gram)
	}
	return text
}

// made is a new port of numbers that may be.
func made(t *testing.T, clients, servers, size int) *port.Port {
	t.Helper()
	p, e := port.New(clients, servers, size)
	if e != api.OK {
		t.Fatalf("New(%d, %d, %d): %v", clients, servers, size, e)
	}
	return p
}

// come lets an event come that takes so many bytes.
func come(t *testing.T, p *port.Port, e api.Event, want int) {
	t.Helper()
	if n, err := p.Event(e); n != want || err != api.OK {
		t.Fatalf("Event(%d at %d, N %d, %.20q): %d, %v", e.Kind, e.End, e.N, e.Data, n, err)
	}
}

// laid is a port whose endpoints stand as it is written, and without outputs.
func laid(t *testing.T, size int, clients, servers []string) *port.Port {
	t.Helper()
	p := made(t, len(clients), len(servers), size)
	for end, written := range clients {
		if w := read(written); w.wasOpen() {
			come(t, p, api.Event{Kind: api.EvOpen, End: end}, 0)
			if got, e := p.Accept(); got != end || e != api.OK {
				t.Fatalf("Accept: %d, %v, want %d", got, e, end)
			}
			layBytes(t, p, end, w)
		}
	}
	for i := range servers {
		dest := api.Dest{Host: api.Host{Addr: api.Addr{A: 10}}, Port: 80}
		if got, e := p.Dial(dest); got != len(clients)+i || e != api.OK {
			t.Fatalf("Dial: %d, %v, want %d", got, e, len(clients)+i)
		}
	}
	for i, written := range servers {
		layServer(t, p, len(clients)+i, read(written))
	}
	for end, written := range clients {
		if w := read(written); w.state == "new" {
			come(t, p, api.Event{Kind: api.EvOpen, End: end}, 0)
			layBytes(t, p, end, w)
		}
	}
	p.Outs()
	return p
}

// layServer goes on with a server that is dialled.
func layServer(t *testing.T, p *port.Port, end int, w word) {
	t.Helper()
	switch w.state {
	case "idle":
		p.Close(end)
	case "down":
		come(t, p, api.Event{Kind: api.EvDown, End: end}, 0)
	case "lost":
		come(t, p, api.Event{Kind: api.EvReset, End: end}, 0)
	}
	if w.wasOpen() {
		come(t, p, api.Event{Kind: api.EvUp, End: end}, 0)
		layBytes(t, p, end, w)
	}
}

// layBytes goes on with an endpoint that is open.
func layBytes(t *testing.T, p *port.Port, end int, w word) {
	t.Helper()
	come(t, p, api.Event{Kind: api.EvData, End: end, Data: w.data}, len(w.data))
	come(t, p, api.Event{Kind: api.EvRoom, End: end, N: w.room}, 0)
	if w.other {
		come(t, p, api.Event{Kind: api.EvFin, End: end}, 0)
	}
	if w.this {
		p.Fin(end)
	}
	switch w.state {
	case "gone":
		come(t, p, api.Event{Kind: api.EvReset, End: end}, 0)
	case "closed":
		p.Close(end)
	}
}

// The ring of all scenes has so many bytes.
const sceneRing = 9

// scene is a port, with two endpoints that are looked at.
type scene struct {
	p    *port.Port
	a, b int
}

// scenes is ports in which two endpoints stand as it is written: as clients, as servers and as one of each, in both orders; by themselves, and with others beside them, which stand in many ways. There is a datagram and an output, too.
func scenes(t *testing.T, first, second string) []scene {
	t.Helper()
	var list []scene
	add := func(a, b int, clients, servers []string) {
		p := laid(t, sceneRing, clients, servers)
		come(t, p, api.Event{Kind: api.EvGram, End: len(clients) + len(servers), Data: "gram"}, 0)
		p.Post([]byte("ahead"))
		list = append(list, scene{p, a, b})
	}
	x, y := read(first), read(second)
	if x.mayBeClient() && y.mayBeClient() {
		add(0, 1, []string{first, second}, nil)
		add(1, 0, []string{second, first}, []string{"open =v +9 <"})
		add(3, 1, []string{"open =x +9", second, "new =y +9", first}, []string{"open =w +9", "dialled"})
	}
	if x.mayBeServer() && y.mayBeServer() {
		add(0, 1, nil, []string{first, second})
		add(3, 2, []string{"gone", "open =x +9 <"}, []string{second, first})
		add(2, 4, []string{"new =x +9"}, []string{"open =v +9 >", first, "idle", second, "open =w +9"})
	}
	if x.mayBeClient() && y.mayBeServer() {
		add(0, 1, []string{first}, []string{second})
		add(1, 3, []string{"open =x +9", first, "idle"}, []string{second, "open =v +9 <"})
	}
	if x.mayBeServer() && y.mayBeClient() {
		add(1, 0, []string{second}, []string{first})
		add(3, 0, []string{second, "open =x +9"}, []string{"gone", first})
	}
	return list
}

// data and fin are what goes out at an endpoint of a pair: 0 is the one that is named first, 1 the other one.
func data(end int, text string) api.Out {
	return api.Out{Kind: api.OData, End: end, Data: text}
}

func fin(end int) api.Out {
	return api.Out{Kind: api.OFin, End: end}
}

func reset(end int) api.Out {
	return api.Out{Kind: api.OReset, End: end}
}

// answer is what a call tells.
type answer struct {
	n    int
	over bool
	err  api.Errno
}

// call is one of the three, at two endpoints.
type call func(p *port.Port, a, b int) answer

func moving(most int) call {
	return func(p *port.Port, a, b int) answer {
		n, e := relay.Move(p, a, b, most)
		return answer{n: n, err: e}
	}
}

func stepping(most int) call {
	return func(p *port.Port, a, b int) answer {
		n, over, e := relay.Step(p, a, b, most)
		return answer{n, over, e}
	}
}

func stopping(p *port.Port, a, b int) answer {
	return answer{err: relay.Stop(p, a, b)}
}

// change is what a call does to two endpoints, of which the one stood as from and the other one as to.
type change struct {
	from, to string
	do       call
	want     answer
	then     [2]string
	outs     []api.Out
}

// String is what it is called in a test's words.
func (c change) String() string {
	return fmt.Sprintf("from %q to %q", c.from, c.to)
}

// faults is what is otherwise than it should be, in one scene: answers, how the two stand then, what goes out behind what did, and all besides.
func (c change) faults(s scene) []string {
	var list []string
	before, outs := stands(s.p, s.a, s.b), s.p.Clone().Outs()
	for _, o := range c.outs {
		o.End = []int{s.a, s.b}[o.End]
		outs = append(outs, o)
	}
	if got := c.do(s.p, s.a, s.b); got != c.want {
		list = append(list, fmt.Sprintf("answers %v, want %v", got, c.want))
	}
	for i, end := range []int{s.a, s.b} {
		if got := written(s.p, end); got != c.then[i] {
			list = append(list, fmt.Sprintf("endpoint %d stands as %q, want %q", end, got, c.then[i]))
		}
	}
	if after := stands(s.p, s.a, s.b); after != before {
		list = append(list, fmt.Sprintf("besides them the port stands as\n%swas\n%s", after, before))
	}
	if got := s.p.Outs(); !slices.Equal(got, outs) {
		list = append(list, fmt.Sprintf("outputs %v, want %v", got, outs))
	}
	return list
}

// wantChange wants it in all scenes.
func wantChange(t *testing.T, what string, c change) {
	t.Helper()
	for _, s := range scenes(t, c.from, c.to) {
		ends, a, b := count(s.p), s.a, s.b
		for _, fault := range c.faults(s) {
			t.Errorf("%s %v (%d and %d of %d): %s", what, c, a, b, ends, fault)
		}
		if t.Failed() {
			return
		}
	}
}

// wantKept wants a call to be answered so, and to leave the port as it was, outputs too.
func wantKept(t *testing.T, what string, p *port.Port, want answer, do func() answer) {
	t.Helper()
	before, outs := stands(p, -1, -1), p.Clone().Outs()
	if got := do(); got != want {
		t.Errorf("%s: %v, want %v", what, got, want)
	}
	if after := stands(p, -1, -1); after != before {
		t.Errorf("%s changes the port:\n%swas\n%s", what, after, before)
	}
	if after := p.Clone().Outs(); !slices.Equal(after, outs) {
		t.Errorf("%s changes the outputs: %v, were %v", what, after, outs)
	}
}

// allWords is endpoints that stand in all ways that there are, some of them in several.
var allWords = []string{
	"idle", "closed", "closed =ab +5", "closed =ab <", "closed < >",
	"dialled", "down", "lost", "gone", "gone =ab +5", "gone =ab <", "gone >", "gone < >",
	"new", "new =ab +5", "new <", "new =ab +1 <", "new >", "new =ab < >",
	"open", "open =a", "open =abcd", "open +1", "open +5", "open =ab +2", "open =abcd +3",
	"open <", "open =ab <", "open +5 <", "open =ab +5 <",
	"open >", "open =ab >", "open +5 >", "open =ab +5 >",
	"open < >", "open =ab < >", "open +5 < >", "open =ab +5 < >",
}

// theSecond is how the other one of a pair stands: the same ways, with other bytes.
func theSecond(from string) string {
	return strings.NewReplacer("=abcd", "=uvwx", "=ab", "=uv", "=a", "=u").Replace(from)
}
