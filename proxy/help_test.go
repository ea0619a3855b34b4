package proxy_test

import (
	"fmt"
	"math"
	"reflect"
	"slices"
	"strings"
	"testing"

	"sallyport/api"
	"sallyport/proxy"
)

// rightCodes are all codes that there are own answers of; wrongCodes are some others, those beside each of the right ones among them, and those that would be right if they were cut to a few bits.
var (
	rightCodes = []int{200, 400, 403, 501, 502, 503, 504}
	wrongCodes = []int{0, 1, 99, 100, 199, 201, 204, 300, 399, 401, 402, 404, 407, 499, 500, 505, 599, 600, 2000, -1, -199, -200, -201, -400, -504, 200 + 1<<8, 200 + 1<<16, 403 + 1<<32, math.MinInt, math.MinInt + 200, math.MaxInt}
)

// ownText is the own answer of a code, as the chapter says it.
func ownText(code int) string {
	const end = "\r\nContent-Length: 0\r\nConnection: close\r\n\r\n"
	switch code {
	case 200:
		return "HTTP/1.1 200 OK\r\n\r\n"
	case 400:
		return "HTTP/1.1 400 Bad Request" + end
	case 403:
		return "HTTP/1.1 403 Forbidden" + end
	case 501:
		return "HTTP/1.1 501 Not Implemented" + end
	case 502:
		return "HTTP/1.1 502 Bad Gateway" + end
	case 503:
		return "HTTP/1.1 503 Service Unavailable" + end
	case 504:
		return "HTTP/1.1 504 Gateway Timeout" + end
	}
	return ""
}

// many is a text of so many times the same byte.
func many(n int, b byte) string {
	return strings.Repeat(string([]byte{b}), n)
}

// one is a text of this byte alone, whatever byte it is.
func one(c int) string {
	return string([]byte{byte(c)})
}

func named(name string, port int) api.Dest {
	return api.Dest{Host: api.Host{Name: name}, Port: port}
}

func at(a, b, c, d byte, port int) api.Dest {
	return api.Dest{Host: api.Host{Addr: api.Addr{A: a, B: b, C: c, D: d}}, Port: port}
}

// First lines to which fields may be added.
const (
	getLine    = "GET http://a.b/x HTTP/1.1"
	tunnelLine = "CONNECT a.b:443 HTTP/1.1"
	postLine   = "POST http://a.b/x HTTP/1.1"
)

// lines is a head of these lines.
func lines(list ...string) string {
	return strings.Join(list, "\r\n") + "\r\n\r\n"
}

// with is a head of this first line and these lines of fields.
func with(first string, fields ...string) string {
	return lines(slices.Concat([]string{first}, fields)...)
}

// read is the fields of lines that have a blank behind the colon and nothing that means nothing.
func read(fields ...string) []api.Field {
	var l []api.Field
	for _, line := range fields {
		name, value, _ := strings.Cut(line, ": ")
		l = append(l, api.Field{Name: name, Value: value})
	}
	return l
}

// numbered is so many lines of fields, no two the same, none of which means anything.
func numbered(n int) []string {
	var l []string
	for i := range n {
		l = append(l, fmt.Sprintf("N%d: v %d", i, i))
	}
	return l
}

// asked is the request of getLine or tunnelLine with these fields.
func asked(first string, fields ...string) api.Request {
	if first == tunnelLine {
		return api.Request{Method: "CONNECT", Dest: named("a.b", 443), Fields: read(fields...)}
	}
	return api.Request{Method: "GET", Dest: named("a.b", 80), Path: "/x", Fields: read(fields...)}
}

// sent is what is sent on of a GET for that path, with a Host field of this value and these lines of fields behind it.
func sent(path, host string, fields ...string) string {
	return lines(slices.Concat([]string{"GET " + path + " HTTP/1.1", "Host: " + host, "Connection: close"}, fields)...)
}

// sizes is a text of letters of ASCII as it is, in small letters, in great ones, and in both mixed.
func sizes(s string) []string {
	mixed := func(odd int) string {
		parts := strings.Split(strings.ToLower(s), "")
		for i := range parts {
			if i%2 == odd {
				parts[i] = strings.ToUpper(parts[i])
			}
		}
		return strings.Join(parts, "")
	}
	return []string{s, strings.ToLower(s), strings.ToUpper(s), mixed(0), mixed(1)}
}

// short is a text for a message of a test: it may be long.
func short(text string) string {
	if len(text) > 300 {
		return fmt.Sprintf("%q .. (%d bytes)", text[:300], len(text))
	}
	return fmt.Sprintf("%q", text)
}

// comes is where a connection stands, and what it says, wants and sends on there.
type comes struct {
	state int
	said  string
	wants api.Request
	sends string
}

func waits(r api.Request) comes {
	return comes{state: proxy.Waits, wants: r}
}

func fetches(r api.Request, sends string) comes {
	return comes{state: proxy.Fetches, wants: r, sends: sends}
}

// passes: what a GET asked for can't be asked any more, but is still sent on.
func passes(sends string) comes {
	return comes{state: proxy.Passes, sends: sends}
}

// answered is what comes of an own answer.
func answered(code int) comes {
	if code == 200 {
		return comes{state: proxy.Open, said: ownText(code)}
	}
	return comes{state: proxy.Over, said: ownText(code)}
}

// same holds requests against each other; a list without members may be nil or empty.
func same(a, b api.Request) bool {
	if len(a.Fields) == 0 && len(b.Fields) == 0 {
		a.Fields, b.Fields = nil, nil
	}
	return reflect.DeepEqual(a, b)
}

// wantAdd wants so many of the bytes to be read, and none of them to be changed.
func wantAdd(t *testing.T, c *proxy.Conn, text string, want int) {
	t.Helper()
	b := []byte(text)
	if n := c.Add(b); n != want {
		t.Errorf("Add(%s): %d, want %d", short(text), n, want)
	}
	if string(b) != text {
		t.Errorf("Add(%s) changes the bytes: %s", short(text), short(string(b)))
	}
}

// wantOut wants just that to be said, which is gone then.
func wantOut(t *testing.T, c *proxy.Conn, want string) {
	t.Helper()
	if got := string(c.Out()); got != want {
		t.Errorf("Out: %q, want %q", got, want)
	}
	if more := c.Out(); len(more) != 0 {
		t.Errorf("Out a second time: %q", more)
	}
}

func wantTell(t *testing.T, c *proxy.Conn, code int, want api.Errno) {
	t.Helper()
	if e := c.Tell(code); e != want {
		t.Errorf("Tell(%d) in state %d: %v, want %v", code, c.State(), e, want)
	}
}

func wantPass(t *testing.T, c *proxy.Conn, want api.Errno) {
	t.Helper()
	if e := c.Pass(); e != want {
		t.Errorf("Pass in state %d: %v, want %v", c.State(), e, want)
	}
}

// wantStands wants the state, what is wanted and what is sent on to be told, as often as they are asked.
func wantStands(t *testing.T, c *proxy.Conn, want comes) {
	t.Helper()
	for range 2 {
		if got := c.State(); got != want.state {
			t.Errorf("State: %d, want %d", got, want.state)
		}
		r, ok := c.Wants()
		if wantOK := want.state == proxy.Waits || want.state == proxy.Fetches; !same(r, want.wants) || ok != wantOK {
			t.Errorf("Wants: %s, %v, want %s, %v", short(fmt.Sprint(r)), ok, short(fmt.Sprint(want.wants)), wantOK)
		}
		if got := string(c.Sends()); got != want.sends {
			t.Errorf("Sends: %s (%d bytes), want %s (%d)", short(got), len(got), short(want.sends), len(want.sends))
		}
	}
}

// wantComes wants just that to come of what was done, and takes what was said.
func wantComes(t *testing.T, c *proxy.Conn, want comes) {
	t.Helper()
	wantStands(t, c, want)
	wantOut(t, c, want.said)
	wantStands(t, c, want)
}

// behind is what may stand behind a head: nothing, ends of lines, a body, heads, a piece of one, what is wrong, and much.
var behind = []string{
	"", "\x00", "\r", "\n", "\r\n", "\r\n\r\n", "body", "x: y\r\n\r\n", with(getLine), with(tunnelLine), with(postLine, "Content-Length: 4") + "body",
	getLine + "\r\n", "GET / HTTP/1.1\r\n\r\n", "\x16\x03\x01\x02\x00", many(9000, 'x'),
}

// wantCuts wants no piece of a head to be read, and nothing to come of it, however often it is brought; then the whole one is read as ever, which do tells.
func wantCuts(t *testing.T, text string, do func(c *proxy.Conn)) {
	t.Helper()
	c := proxy.New()
	before := stands(c)
	for n := range text {
		wantAdd(t, c, text[:n], 0)
		wantStands(t, c, comes{})
	}
	wantSameLook(t, "the pieces of "+short(text), stands(c), before)
	wantOut(t, c, "")
	do(c)
}

// wantHead wants a head alone to be read, whatever stands behind it, and just that to come of it.
func wantHead(t *testing.T, text string, want comes) {
	t.Helper()
	for _, more := range behind {
		c := proxy.New()
		wantAdd(t, c, text+more, len(text))
		wantComes(t, c, want)
	}
	wantCuts(t, text, func(c *proxy.Conn) {
		t.Helper()
		wantAdd(t, c, text, len(text))
		wantComes(t, c, want)
	})
	if t.Failed() {
		t.Fatalf("above: the head %s", short(text))
	}
}

// wantWrong wants a head that is wrong to be read with all that stands behind it, and the own answer 400 to come of it; pieces of it are not read.
func wantWrong(t *testing.T, text string) {
	t.Helper()
	for _, more := range behind {
		c := proxy.New()
		wantAdd(t, c, text+more, len(text)+len(more))
		wantComes(t, c, answered(400))
	}
	wantCuts(t, text, func(c *proxy.Conn) {
		t.Helper()
		wantAdd(t, c, text, len(text))
		wantComes(t, c, answered(400))
	})
	if t.Failed() {
		t.Fatalf("above: the head %s", short(text))
	}
}

// wantSent wants a GET with these lines of fields to be fetched, and those of the lines to be sent on.
func wantSent(t *testing.T, fields []string, kept ...string) {
	t.Helper()
	wantHead(t, with(getLine, fields...), fetches(asked(getLine, fields...), sent("/x", "a.b", kept...)))
}

// moves is what stands tries: heads of each kind, a wrong one, both sorts of codes, and Pass.
var moves = []func(c *proxy.Conn) any{
	func(c *proxy.Conn) any { return c.Add([]byte(with(getLine, "X: 1"))) },
	func(c *proxy.Conn) any { return c.Add([]byte(with(tunnelLine))) },
	func(c *proxy.Conn) any { return c.Add([]byte(with(postLine) + "more")) },
	func(c *proxy.Conn) any { return c.Add([]byte("x\r\n\r\nmore")) },
	func(c *proxy.Conn) any { return c.Tell(200) },
	func(c *proxy.Conn) any { return c.Tell(502) },
	func(c *proxy.Conn) any { return c.Pass() },
}

// stands is all that a connection tells, and all that comes of it in a few moves; nothing is done to the connection itself.
func stands(c *proxy.Conn) string {
	var b strings.Builder
	look(&b, c.Clone(), 2)
	return b.String()
}

func look(b *strings.Builder, c *proxy.Conn, depth int) {
	r, ok := c.Wants()
	fmt.Fprintf(b, " %d %q %v %q", c.State(), fmt.Sprint(r), ok, c.Sends())
	if depth > 0 {
		for i, move := range moves {
			next := c.Clone()
			fmt.Fprintf(b, " (%d: %v", i, move(next))
			look(b, next, depth-1)
			b.WriteString(")")
		}
	}
	fmt.Fprintf(b, " %q", c.Out())
}

// wantKept wants what is done to leave all that the connection could tell as it was.
func wantKept(t *testing.T, what string, c *proxy.Conn, do func()) {
	t.Helper()
	before := stands(c)
	do()
	wantSameLook(t, what, stands(c), before)
}

// wantSameLook holds two looks at a connection against each other, and tells where they begin to differ.
func wantSameLook(t *testing.T, what, after, before string) {
	t.Helper()
	if after == before {
		return
	}
	at := 0
	for at < min(len(after), len(before)) && after[at] == before[at] {
		at++
	}
	t.Errorf("behind %s the connection is another one, from %d on: %s, was %s", what, at, short(after[at:]), short(before[at:]))
}

// brought is a new connection that a head was brought to, which it reads whole.
func brought(t *testing.T, text string) *proxy.Conn {
	t.Helper()
	c := proxy.New()
	wantAdd(t, c, text, len(text))
	return c
}

// told is a connection that was asking, behind that code.
func told(t *testing.T, c *proxy.Conn, code int) *proxy.Conn {
	t.Helper()
	wantTell(t, c, code, api.OK)
	return c
}

// passed is a connection that fetched, behind a Pass.
func passed(t *testing.T, c *proxy.Conn) *proxy.Conn {
	t.Helper()
	wantPass(t, c, api.OK)
	return c
}

// quiet is a connection of which all that was said is taken.
func quiet(c *proxy.Conn) *proxy.Conn {
	c.Out()
	return c
}

// fullGet is a GET of fields that are sent on and fields that are not.
var fullGet = with("GET http://10.0.0.1:8080/y?z HTTP/1.1", "Host: c", "Connection: X, close", "X: 1", "Via: b", "Via: c", "TE: d")

// someConns is connections in each of the states, with what was said taken and not.
func someConns(t *testing.T) []*proxy.Conn {
	t.Helper()
	get, full, tunnel := with(getLine), fullGet, with(tunnelLine, "X: 1", "Connection: X")
	return []*proxy.Conn{
		proxy.New(),
		proxy.New().Clone(),
		brought(t, with(tunnelLine)),
		brought(t, tunnel),
		brought(t, get),
		brought(t, full),
		told(t, brought(t, tunnel), 200),
		quiet(told(t, brought(t, tunnel), 200)),
		passed(t, brought(t, get)),
		passed(t, brought(t, full)),
		told(t, brought(t, tunnel), 403),
		told(t, brought(t, full), 502),
		quiet(told(t, brought(t, get), 504)),
		brought(t, with(postLine)),
		brought(t, "x\r\n\r\n"),
		brought(t, with(getLine, "Content-Length: 1")),
		quiet(brought(t, with(getLine, "Transfer-Encoding: chunked"))),
	}
}

// inState is those of someConns that are in this state.
func inState(t *testing.T, state int) []*proxy.Conn {
	t.Helper()
	var list []*proxy.Conn
	for _, c := range someConns(t) {
		if c.State() == state {
			list = append(list, c)
		}
	}
	if len(list) < 2 {
		t.Fatalf("only %d connections are in state %d", len(list), state)
	}
	return list
}
