package relay_test

import (
	"fmt"
	"math"
	"math/rand"
	"slices"
	"testing"

	"sallyport/api"
	"sallyport/port"
)

// model is what the chapters of a port and of the relay say, said plainly.
type model struct {
	clients, size int
	ends          []word
	outs          []api.Out
}

func newModel(clients, servers, size int) *model {
	m := &model{clients: clients, size: size, ends: make([]word, clients+servers)}
	for i := range m.ends {
		m.ends[i].state = "idle"
	}
	return m
}

func (m *model) clone() *model {
	c := *m
	c.ends, c.outs = slices.Clone(m.ends), slices.Clone(m.outs)
	return &c
}

// event is what comes from without, as far as these tests let it come.
func (m *model) event(e api.Event) {
	x := &m.ends[e.End]
	switch e.Kind {
	case api.EvOpen:
		if x.state == "idle" && e.End < m.clients {
			*x = word{state: "new"}
		}
	case api.EvData:
		if x.isOpen() && !x.other {
			x.data += e.Data
			x.data = x.data[:min(len(x.data), m.size)]
		}
	case api.EvFin:
		if x.isOpen() {
			x.other = true
		}
	case api.EvReset:
		if x.state == "new" {
			*x = word{state: "idle"}
		} else if !x.isDown() {
			*x = word{state: "gone"}
		}
	case api.EvRoom:
		if x.isOpen() {
			x.room += e.N
		}
	case api.EvUp:
		if x.state == "dialled" {
			*x = word{state: "open"}
		}
	case api.EvDown:
		if x.state == "dialled" {
			*x = word{state: "gone"}
		}
	}
}

func (m *model) accept() {
	for i := range m.ends {
		if m.ends[i].state == "new" {
			m.ends[i].state = "open"
			return
		}
	}
}

func (m *model) dial() {
	for end := m.clients; end < len(m.ends); end++ {
		if m.ends[end].state == "idle" {
			m.ends[end] = word{state: "dialled"}
			m.outs = append(m.outs, api.Out{Kind: api.ODial, End: end, Dest: dialled})
			return
		}
	}
}

func (m *model) fin(end int) {
	if x := &m.ends[end]; x.isOpen() && !x.this {
		x.this = true
		m.outs = append(m.outs, fin(end))
	}
}

// close is what closing does to what is not idle.
func (m *model) close(end int) {
	x := &m.ends[end]
	if x.state == "dialled" || x.isOpen() && !(x.other && x.this) {
		m.outs = append(m.outs, reset(end))
	}
	*x = word{state: "idle"}
}

// isNone tells whether two endpoints are no pair.
func (m *model) isNone(a, b int) bool {
	return a < 0 || a >= len(m.ends) || b < 0 || b >= len(m.ends) || a == b
}

// hand is 19.1 without its errors: byte by byte, and the end behind them.
func (m *model) hand(from, to, most int) int {
	x, y := &m.ends[from], &m.ends[to]
	text := ""
	for x.data != "" && y.mayGo() > 0 && len(text) < most {
		text += x.data[:1]
		x.data = x.data[1:]
		y.room--
	}
	if text != "" {
		m.outs = append(m.outs, data(to, text))
	}
	if x.isOpen() && x.other && x.data == "" && y.isOpen() && !y.this {
		m.fin(to)
	}
	return len(text)
}

func (m *model) move(from, to, most int) answer {
	if m.isNone(from, to) || most < 1 {
		return answer{err: api.ErrArg}
	}
	return answer{n: m.hand(from, to, most)}
}

func (m *model) step(a, b, most int) answer {
	if m.isNone(a, b) || most < 1 {
		return answer{err: api.ErrArg}
	}
	x, y := &m.ends[a], &m.ends[b]
	if x.isDown() || y.isDown() {
		m.stop(a, b)
		return answer{over: true}
	}
	n := m.hand(a, b, most)
	n += m.hand(b, a, most)
	over := x.other && x.this && y.other && y.this && x.data == "" && y.data == ""
	if over {
		m.stop(a, b)
	}
	return answer{n: n, over: over}
}

func (m *model) stop(a, b int) answer {
	if m.isNone(a, b) {
		return answer{err: api.ErrArg}
	}
	m.close(a)
	m.close(b)
	return answer{}
}

var dialled = api.Dest{Host: api.Host{Addr: api.Addr{A: 10, D: 9}}, Port: 80}

// both is a port and its model, to which the same is done.
type both struct {
	p *port.Port
	m *model
}

func newBoth(t *testing.T, clients, servers, size int) both {
	t.Helper()
	return both{made(t, clients, servers, size), newModel(clients, servers, size)}
}

func (x both) clone() both {
	return both{x.p.Clone(), x.m.clone()}
}

// wantSame wants the endpoints to stand alike, and the outputs to be the same.
func (x both) wantSame(t *testing.T, what string) {
	t.Helper()
	for end := range x.m.ends {
		if got, want := written(x.p, end), x.m.ends[end].String(); got != want {
			t.Errorf("%s: endpoint %d stands as %.80q, want %.80q", what, end, got, want)
		}
	}
	if got := x.p.Clone().Outs(); !slices.Equal(got, x.m.outs) {
		t.Errorf("%s: outputs %.300v, want %.300v", what, got, x.m.outs)
	}
}

// turn is something that is done to both.
type turn struct {
	name string
	do   func(x both) (got, want answer)
}

func eventTurn(e api.Event) turn {
	name := fmt.Sprintf("Event(%d at %d, N %d, %.10q)", e.Kind, e.End, e.N, e.Data)
	return turn{name, func(x both) (got, want answer) {
		x.p.Event(e)
		x.m.event(e)
		return got, want
	}}
}

func acceptTurn() turn {
	return turn{"Accept", func(x both) (got, want answer) {
		x.p.Accept()
		x.m.accept()
		return got, want
	}}
}

func dialTurn() turn {
	return turn{"Dial", func(x both) (got, want answer) {
		x.p.Dial(dialled)
		x.m.dial()
		return got, want
	}}
}

// openTurn opens all endpoints that are idle or dialled, as one alone that is open is no pair.
func openTurn(n int) turn {
	return turn{"all open", func(x both) (got, want answer) {
		for end := range n {
			eventTurn(api.Event{Kind: api.EvOpen, End: end}).do(x)
			dialTurn().do(x)
		}
		for end := range n {
			eventTurn(api.Event{Kind: api.EvUp, End: end}).do(x)
		}
		return got, want
	}}
}

func finTurn(end int) turn {
	return turn{fmt.Sprint("Fin ", end), func(x both) (got, want answer) {
		x.p.Fin(end)
		x.m.fin(end)
		return got, want
	}}
}

func moveTurn(from, to, most int) turn {
	return turn{fmt.Sprintf("Move(%d, %d, %d)", from, to, most), func(x both) (got, want answer) {
		return moving(most)(x.p, from, to), x.m.move(from, to, most)
	}}
}

func stepTurn(a, b, most int) turn {
	return turn{fmt.Sprintf("Step(%d, %d, %d)", a, b, most), func(x both) (got, want answer) {
		return stepping(most)(x.p, a, b), x.m.step(a, b, most)
	}}
}

func stopTurn(a, b int) turn {
	return turn{fmt.Sprintf("Stop(%d, %d)", a, b), func(x both) (got, want answer) {
		return stopping(x.p, a, b), x.m.stop(a, b)
	}}
}

// P1, P2: each call of two endpoints, in all ways that they may stand, is answered as the model answers it, changes them as it does, and nothing besides.
func TestAllStands(t *testing.T) {
	for _, first := range allWords {
		for _, second := range allWords {
			second := theSecond(second)
			m := &model{ends: []word{read(read(first).String()), read(read(second).String())}}
			for _, most := range []int{1, 2, 9} {
				wantModel(t, first, second, m.clone(), moving(most), func(m *model) answer { return m.move(0, 1, most) })
				wantModel(t, first, second, m.clone(), stepping(most), func(m *model) answer { return m.step(0, 1, most) })
			}
			wantModel(t, first, second, m, stopping, func(m *model) answer { return m.stop(0, 1) })
			if t.Failed() {
				return
			}
		}
	}
}

// wantModel wants a call to do to a pair what is done to its model.
func wantModel(t *testing.T, first, second string, m *model, do call, model func(m *model) answer) {
	t.Helper()
	want := model(m)
	wantChange(t, "a call", change{first, second, do, want, [2]string{m.ends[0].String(), m.ends[1].String()}, m.outs})
}

// pairTurns is what may be done to a port of two endpoints.
func pairTurns() []turn {
	list := []turn{
		eventTurn(api.Event{Kind: api.EvOpen, End: 0}),
		dialTurn(),
		eventTurn(api.Event{Kind: api.EvUp, End: 1}),
		eventTurn(api.Event{Kind: api.EvDown, End: 1}),
		moveTurn(0, 1, 1), moveTurn(0, 1, 9), moveTurn(1, 0, 1), moveTurn(1, 0, 9),
		stepTurn(0, 1, 1), stepTurn(0, 1, 9), stepTurn(1, 0, 1), stepTurn(1, 0, 9),
		stopTurn(0, 1), stopTurn(1, 0),
	}
	for end := range 2 {
		list = append(list,
			eventTurn(api.Event{Kind: api.EvData, End: end, Data: []string{"ab", "uv"}[end]}),
			eventTurn(api.Event{Kind: api.EvRoom, End: end, N: 1}),
			eventTurn(api.Event{Kind: api.EvFin, End: end}),
			eventTurn(api.Event{Kind: api.EvReset, End: end}),
		)
	}
	return list
}

// allRows does all rows of so many turns, and holds port and model together behind each.
func allRows(t *testing.T, x both, turns []turn, depth int, row string) {
	if depth == 0 || t.Failed() {
		return
	}
	for _, turn := range turns {
		y := x.clone()
		got, want := turn.do(y)
		name := row + ", " + turn.name
		if got != want {
			t.Errorf("%s: %v, want %v", name, got, want)
		}
		y.wantSame(t, name)
		allRows(t, y, turns, depth-1, name)
	}
}

// P1: all short rows of calls and events, at endpoints that stand in some ways at the beginning.
func TestAllShortRows(t *testing.T) {
	begin := newBoth(t, 1, 1, 3)
	allRows(t, begin, pairTurns(), 3, "new")
	for _, turn := range []turn{
		eventTurn(api.Event{Kind: api.EvOpen, End: 0}), acceptTurn(), dialTurn(),
		eventTurn(api.Event{Kind: api.EvUp, End: 1}),
	} {
		turn.do(begin)
	}
	allRows(t, begin.clone(), pairTurns(), 3, "open")
	for end := range 2 {
		eventTurn(api.Event{Kind: api.EvData, End: end, Data: []string{"ab", "uv"}[end]}).do(begin)
		eventTurn(api.Event{Kind: api.EvRoom, End: end, N: 2 - end}).do(begin)
	}
	allRows(t, begin.clone(), pairTurns(), 3, "with bytes")
	for end := range 2 {
		eventTurn(api.Event{Kind: api.EvFin, End: end}).do(begin)
	}
	allRows(t, begin.clone(), pairTurns(), 3, "with ends")
}

// drawnPair is two endpoints, most often of the same pairs; now and then they are none.
func drawnPair(r *rand.Rand, n int) (int, int) {
	a := r.Intn(n)
	switch r.Intn(40) {
	case 0:
		return a, []int{-1, n, n + 1, math.MinInt, math.MaxInt}[r.Intn(5)]
	case 1:
		return []int{-1, n, n + 1, math.MinInt, math.MaxInt}[r.Intn(5)], a
	case 2:
		return a, a
	case 3, 4, 5, 6:
		return a, (a + 1 + r.Intn(n-1)) % n
	}
	if a = a / 2 * 2; a == n-1 {
		a--
	}
	if r.Intn(2) == 0 {
		return a, a + 1
	}
	return a + 1, a
}

func drawnMost(r *rand.Rand) int {
	if r.Intn(30) == 0 {
		return []int{0, -1, math.MinInt}[r.Intn(3)]
	}
	return []int{1, 1, 2, 3, 5, 9, 64, math.MaxInt}[r.Intn(8)]
}

// drawnEvent is what comes at an endpoint that is open, or should be.
func drawnEvent(r *rand.Rand, end int) api.Event {
	e := api.Event{Kind: api.EvData, End: end}
	switch r.Intn(24) {
	case 0:
		e.Kind = []int{api.EvReset, api.EvDown}[r.Intn(2)]
	case 1, 2, 3:
		e.Kind = api.EvFin
	case 4, 5, 6:
		e.Kind = []int{api.EvOpen, api.EvUp}[r.Intn(2)]
	case 7, 8, 9, 10, 11, 12, 13:
		e.Kind, e.N = api.EvRoom, r.Intn(9)
	default:
		text := make([]byte, r.Intn(9))
		for i := range text {
			text[i] = byte('a' + r.Intn(26))
		}
		e.Data = string(text)
	}
	return e
}

// drawnTurn is one of all turns, at endpoints of which there are so many.
func drawnTurn(r *rand.Rand, n int) turn {
	a, b := drawnPair(r, n)
	switch r.Intn(24) {
	case 0:
		return acceptTurn()
	case 1:
		return dialTurn()
	case 2:
		return openTurn(n)
	case 3:
		if r.Intn(4) == 0 {
			return finTurn(r.Intn(n))
		}
		return stopTurn(a, b)
	case 4, 5, 6:
		return moveTurn(a, b, drawnMost(r))
	case 7, 8, 9, 10, 11:
		return stepTurn(a, b, drawnMost(r))
	}
	return eventTurn(drawnEvent(r, r.Intn(n)))
}

// P1, P2: long drawn rows of calls and events, at ports of several sizes; each sort of answer is seen often.
func TestDrawnRows(t *testing.T) {
	seen := map[string]int{}
	for seed := range int64(400) {
		r := rand.New(rand.NewSource(seed))
		clients, servers := r.Intn(4), r.Intn(4)
		clients += max(0, 2-clients-servers)
		x := newBoth(t, clients, servers, 1+r.Intn(9))
		for i := range 200 {
			turn := drawnTurn(r, clients+servers)
			got, want := turn.do(x)
			name := fmt.Sprint("seed ", seed, ", turn ", i, ", ", turn.name)
			if got != want {
				t.Errorf("%s: %v, want %v", name, got, want)
			}
			x.wantSame(t, name)
			if t.Failed() {
				return
			}
			seen[fmt.Sprintf("%.4s %v %v %d", turn.name, got.n > 0, got.over, got.err)]++
		}
	}
	for _, sort := range []string{
		"Move true false 0", "Move false false 0", "Move false false 2",
		"Step true false 0", "Step true true 0", "Step false true 0", "Step false false 0", "Step false false 2",
		"Stop false false 0", "Stop false false 2",
	} {
		if seen[sort] < 50 {
			t.Errorf("only %d answers of the sort %s: %v", seen[sort], sort, seen)
		}
	}
}
