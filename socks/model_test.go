package socks_test

import (
	"math"
	"math/rand"
	"regexp"
	"slices"
	"strings"
	"testing"

	"sallyport/api"
	"sallyport/socks"
)

// What there is at the front of bytes, as chapter 7 has it.
const (
	whole = iota
	piece
	wrong
	wrongType
)

// model is what the chapter says, said plainly, with a reading of messages that knows nothing of layer 7.
type model struct {
	user, pass string
	state      int
	dest       api.Dest
	said       string
}

func (m *model) clone() *model {
	d := *m
	return &d
}

// countedAt is the text behind a number of bytes at that place.
func countedAt(b string, place int) (string, int) {
	switch {
	case len(b) <= place:
		return "", piece
	case b[place] == 0:
		return "", wrong
	case len(b) < place+1+int(b[place]):
		return "", piece
	}
	return b[place+1 : place+1+int(b[place])], whole
}

// versionOf looks at the first byte.
func versionOf(b string, version byte) int {
	switch {
	case b == "":
		return piece
	case b[0] != version:
		return wrong
	}
	return whole
}

func modelGreeting(b string) (string, int, int) {
	kind := versionOf(b, 5)
	if kind != whole {
		return "", 0, kind
	}
	methods, kind := countedAt(b, 1)
	return methods, 2 + len(methods), kind
}

func modelLogin(b string) (string, string, int, int) {
	kind := versionOf(b, 1)
	if kind != whole {
		return "", "", 0, kind
	}
	user, kind := countedAt(b, 1)
	if kind != whole {
		return "", "", 0, kind
	}
	pass, kind := countedAt(b, 2+len(user))
	return user, pass, 3 + len(user) + len(pass), kind
}

var nameForm = regexp.MustCompile(`^([a-z0-9]([a-z0-9-]{0,61}[a-z0-9])?\.)*[a-z0-9]([a-z0-9-]{0,61}[a-z0-9])?$`)
var digitsEnd = regexp.MustCompile(`(^|\.)[0-9]+$`)

// modelRequest tells the command, the destination and the number of bytes.
func modelRequest(b string) (int, api.Dest, int, int) {
	kind := versionOf(b, 5)
	switch {
	case kind != whole:
		return 0, api.Dest{}, 0, kind
	case len(b) > 2 && b[2] != 0:
		return 0, api.Dest{}, 0, wrong
	case len(b) > 3 && b[3] != 1 && b[3] != 3:
		return 0, api.Dest{}, 0, wrongType
	case len(b) < 5:
		return 0, api.Dest{}, 0, piece
	}
	var h api.Host
	size := 8
	if b[3] == 3 {
		name, kind := countedAt(b, 4)
		lower := strings.ToLower(name)
		switch {
		case b[4] > 253:
			return 0, api.Dest{}, 0, wrong
		case kind != whole:
			return 0, api.Dest{}, 0, kind
		case !nameForm.MatchString(lower) || digitsEnd.MatchString(lower):
			return 0, api.Dest{}, 0, wrong
		}
		h.Name, size = lower, 5+len(name)
	}
	if len(b) < size+2 {
		return 0, api.Dest{}, 0, piece
	}
	if b[3] == 1 {
		h.Addr = api.Addr{A: b[4], B: b[5], C: b[6], D: b[7]}
	}
	return int(b[1]), api.Dest{Host: h, Port: int(b[size])*256 + int(b[size+1])}, size + 2, whole
}

// comes is what a message comes to: what is said, and the state behind it.
func (m *model) comes(said string, state int) {
	m.said += said
	m.state = state
}

func (m *model) add(b string) int {
	size, kind := 0, piece
	switch m.state {
	case socks.Greets:
		size, kind = m.greets(b)
	case socks.Logs:
		size, kind = m.logs(b)
	case socks.Asks:
		size, kind = m.asks(b)
	}
	switch kind {
	case whole:
		return size
	case piece:
		return 0
	}
	return len(b)
}

func (m *model) greets(b string) (int, int) {
	methods, size, kind := modelGreeting(b)
	switch {
	case kind == piece:
	case kind == wrong:
		m.comes("", socks.Over)
	case m.user == "" && strings.IndexByte(methods, 0) >= 0:
		m.comes("\x05\x00", socks.Asks)
	case m.user != "" && strings.IndexByte(methods, 2) >= 0:
		m.comes("\x05\x02", socks.Logs)
	default:
		m.comes("\x05\xff", socks.Over)
	}
	return size, kind
}

func (m *model) logs(b string) (int, int) {
	user, pass, size, kind := modelLogin(b)
	switch {
	case kind == piece:
	case kind == wrong:
		m.comes("", socks.Over)
	case user == m.user && pass == m.pass:
		m.comes("\x01\x00", socks.Asks)
	default:
		m.comes("\x01\x01", socks.Over)
	}
	return size, kind
}

func (m *model) asks(b string) (int, int) {
	command, dest, size, kind := modelRequest(b)
	switch {
	case kind == piece:
	case kind == wrongType:
		m.comes(reply(8), socks.Over)
	case kind == wrong:
		m.comes(reply(1), socks.Over)
	case command != 1:
		m.comes(reply(7), socks.Over)
	case dest.Port == 0:
		m.comes(reply(1), socks.Over)
	default:
		m.comes("", socks.Waits)
		m.dest = dest
	}
	return size, kind
}

func (m *model) tell(code int) api.Errno {
	switch {
	case code < 0 || code > 8:
		return api.ErrArg
	case m.state != socks.Waits:
		return api.ErrClosed
	case code == 0:
		m.comes(reply(code), socks.Open)
	default:
		m.comes(reply(code), socks.Over)
	}
	return api.OK
}

// pair is a connection beside its model.
type pair struct {
	c *socks.Conn
	m *model
}

func newPair(t *testing.T, user, pass string) pair {
	t.Helper()
	return pair{made(t, user, pass), &model{user: user, pass: pass}}
}

func (p pair) clone() pair {
	return pair{p.c.Clone(), p.m.clone()}
}

func (p pair) add(t *testing.T, b string) int {
	t.Helper()
	n := p.m.add(b)
	wantAdd(t, p.c, b, n)
	return n
}

func (p pair) tell(t *testing.T, code int) {
	t.Helper()
	wantTell(t, p.c, code, p.m.tell(code))
}

func (p pair) out(t *testing.T) {
	t.Helper()
	wantOut(t, p.c, p.m.said)
	p.m.said = ""
}

func (p pair) check(t *testing.T) {
	t.Helper()
	wantState(t, p.c, p.m.state)
	if p.m.state == socks.Waits {
		wantWants(t, p.c, p.m.dest, true)
	} else {
		wantWants(t, p.c, api.Dest{}, false)
	}
}

// 17.1 to 17.3: all rows of a few calls, with a user wanted and without; on a clone each, so that Clone is looked at too.
func TestAllShortRows(t *testing.T) {
	texts := []string{
		"", "\x05", "\x04", greeting(0), greeting(2), greeting(0, 2) + login("u", "p"), greeting(1), "\x05\x00",
		login("u", "p"), login("u", "q"), login("u", "p") + toName(1, "a", 80), "\x01\x00",
		toName(1, "a", 80), toAddr(1, 10, 0, 0, 1, 80)[:9], toName(2, "a", 0), toName(1, "a", 0), "\x05\x01\x00\x04",
	}
	codes := []int{-1, 0, 1, 9}
	var walk func(p pair, depth int)
	walk = func(p pair, depth int) {
		p.check(t)
		p.clone().out(t)
		if depth == 0 || t.Failed() {
			return
		}
		for _, text := range texts {
			next := p.clone()
			next.add(t, text)
			walk(next, depth-1)
		}
		for _, code := range codes {
			next := p.clone()
			next.tell(t, code)
			walk(next, depth-1)
		}
		next := p.clone()
		next.out(t)
		walk(next, depth-1)
	}
	walk(newPair(t, "", ""), 4)
	walk(newPair(t, "u", "p"), 4)
}

// drawnLogin is a text that a login may have: those drawn are often the same, or begin alike.
func drawnLogin(draw *rand.Rand) string {
	texts := []string{"u", "p", "up", "user", "pass", "\x00", many(255, 'u'), many(254, 'u')}
	return texts[draw.Intn(len(texts))]
}

func drawnMethods(draw *rand.Rand) []byte {
	methods := make([]byte, []int{1, 1, 2, 3, 9, 255}[draw.Intn(6)])
	for i := range methods {
		methods[i] = []byte{0, 2, 1, 3, 255, byte(draw.Intn(256))}[draw.Intn(6)]
	}
	return methods
}

func drawnRequest(draw *rand.Rand) string {
	command := []byte{1, 1, 1, 1, 2, 3, 0, byte(draw.Intn(256))}[draw.Intn(8)]
	n := []int{80, 80, 443, 1, 65535, 0, draw.Intn(65536)}[draw.Intn(7)]
	names := []string{"a", "Example.COM", "a.b-c", longName(253), "-", "10.0.0.1", "a..b", longName(254), "xn--a", many(64, 'a')}
	switch draw.Intn(5) {
	case 0, 1:
		return toAddr(command, byte(draw.Intn(256)), byte(draw.Intn(3)), 0, byte(draw.Intn(256)), n)
	case 2:
		return string([]byte{5, command, byte(draw.Intn(2)), byte(draw.Intn(6)), byte(draw.Intn(5)), 'a', 'b', 'c'}) + port(n)
	}
	return toName(command, names[draw.Intn(len(names))], n)
}

// drawnMessage is mostly one that the state asks for, and mostly the one that gets on there.
func drawnMessage(draw *rand.Rand, m *model) string {
	state := m.state
	if draw.Intn(15) == 0 {
		state = draw.Intn(4)
	}
	text := ""
	switch state {
	case socks.Greets:
		text = greeting(drawnMethods(draw)...)
		if draw.Intn(2) == 0 {
			text = greeting(7, 0, 2)
		}
	case socks.Logs:
		text = login(m.user, m.pass)
		if draw.Intn(3) == 0 || m.user == "" {
			text = login(drawnLogin(draw), drawnLogin(draw))
		}
	case socks.Asks:
		text = drawnRequest(draw)
	default:
		text = "more"
	}
	if draw.Intn(20) == 0 {
		b := []byte(text)
		b[draw.Intn(len(b))] ^= 1 << draw.Intn(8)
		text = string(b)
	}
	return text
}

// someCall is one call, with wrong arguments at times; it answers what of the waiting bytes was not read.
func someCall(t *testing.T, p *pair, draw *rand.Rand, waiting string) string {
	t.Helper()
	switch draw.Intn(12) {
	case 0:
		*p = p.clone()
	case 1:
		p.out(t)
	case 2:
		p.tell(t, append(wrongCodes, rightCodes...)[draw.Intn(len(wrongCodes)+len(rightCodes))])
	case 3:
		if p.m.state == socks.Waits {
			p.tell(t, rightCodes[draw.Intn(len(rightCodes))]*draw.Intn(2))
		}
	case 4, 5, 6:
		n := draw.Intn(len(waiting) + 1)
		read := p.add(t, waiting[:n])
		return waiting[read:]
	case 7, 8:
		waiting += drawnMessage(draw, p.m)
		return waiting[p.add(t, waiting):]
	case 9:
		return waiting + drawnMessage(draw, p.m)
	default:
		return waiting[p.add(t, waiting):]
	}
	return waiting
}

// 17.1 to 17.3: rows of drawn calls of many connections, wrong ones among them; each state is seen often.
func TestLongRows(t *testing.T) {
	draw := rand.New(rand.NewSource(17))
	seen := make([]int, 6)
	for i := range 20000 {
		user, pass := "", ""
		if draw.Intn(3) > 0 {
			user, pass = drawnLogin(draw), drawnLogin(draw)
		}
		p := newPair(t, user, pass)
		waiting := ""
		for range 8 + draw.Intn(16) {
			waiting = someCall(t, &p, draw, waiting)
			p.check(t)
			seen[p.m.state]++
		}
		p.out(t)
		if t.Failed() {
			t.Fatalf("above: connection %d of %s, %s", i, short(user), short(pass))
		}
	}
	if slices.Min(seen) < 1000 {
		t.Errorf("the states are seen so often: %v", seen)
	}
}

// 17.1: all texts of up to five of the bytes that messages are made of, in each state.
func TestAllShortTexts(t *testing.T) {
	letters := []byte{0, 1, 2, 3, 4, 5, 'a', 255}
	begin := []pair{newPair(t, "", ""), newPair(t, "u", "p"), newPair(t, "u", "p"), newPair(t, "", "")}
	begin[2].add(t, greeting(2))
	begin[3].add(t, greeting(0))
	var walk func(text string, depth int)
	walk = func(text string, depth int) {
		for _, p := range begin {
			q := p.clone()
			q.add(t, text)
			q.check(t)
			q.out(t)
		}
		if depth == 0 || t.Failed() {
			return
		}
		for _, c := range letters {
			walk(text+string([]byte{c}), depth-1)
		}
	}
	walk("", 5)
}

// P1: no call panics, whatever it is handed, and none reads more than there is.
func TestAnyArguments(t *testing.T) {
	draw := rand.New(rand.NewSource(77))
	for range 5000 {
		texts := []string{"", "u", many(255, 'u'), many(256, 'u'), many(draw.Intn(600), 'u')}
		user, pass := texts[draw.Intn(len(texts))], texts[draw.Intn(len(texts))]
		c, e := socks.New(user, pass)
		if right := (user == "") == (pass == "") && len(user) < 256 && len(pass) < 256; right != (e == api.OK) || right != (c != nil) || !right && e != api.ErrArg {
			t.Fatalf("New(%s, %s): %v, %v", short(user), short(pass), c, e)
		}
		for range 20 {
			b := make([]byte, draw.Intn(20))
			draw.Read(b)
			if len(b) > 0 && draw.Intn(2) == 0 {
				b[0] = byte(draw.Intn(6))
			}
			if n := c.Add(b); n < 0 || n > len(b) {
				t.Fatalf("Add(%x): %d", b, n)
			}
			c.Tell([]int{0, 8, 9, -1, math.MaxInt, math.MinInt, int(draw.Uint64())}[draw.Intn(7)])
			c.State()
			c.Wants()
			c.Out()
			c = c.Clone()
		}
	}
}
