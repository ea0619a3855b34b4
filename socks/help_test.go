package socks_test

import (
	"fmt"
	"math"
	"strings"
	"testing"

	"sallyport/api"
	"sallyport/socks"
)

// wrongCodes are codes that Tell does not take; rightCodes are all that it does.
var (
	wrongCodes = []int{-1, 9, 10, 255, 256, math.MinInt, math.MaxInt}
	rightCodes = []int{0, 1, 2, 3, 4, 5, 6, 7, 8}
)

// many is a text of so many times the same byte.
func many(n int, b byte) string {
	return strings.Repeat(string([]byte{b}), n)
}

// counted is a text behind its number of bytes.
func counted(s string) string {
	return string([]byte{byte(len(s))}) + s
}

func greeting(methods ...byte) string {
	return "\x05" + counted(string(methods))
}

func login(user, pass string) string {
	return "\x01" + counted(user) + counted(pass)
}

func port(n int) string {
	return string([]byte{byte(n >> 8), byte(n)})
}

// toName is a request with a name, toAddr one with an address.
func toName(command byte, name string, n int) string {
	return string([]byte{5, command, 0, 3}) + counted(name) + port(n)
}

func toAddr(command, a, b, c, d byte, n int) string {
	return string([]byte{5, command, 0, 1, a, b, c, d}) + port(n)
}

// What a connection says.
const (
	choice0   = "\x05\x00"
	choice2   = "\x05\x02"
	choice255 = "\x05\xff"
	verdict0  = "\x01\x00"
	verdict1  = "\x01\x01"
)

func reply(code int) string {
	return string([]byte{5, byte(code), 0, 1, 0, 0, 0, 0, 0, 0})
}

func named(name string, port int) api.Dest {
	return api.Dest{Host: api.Host{Name: name}, Port: port}
}

func at(a, b, c, d byte, port int) api.Dest {
	return api.Dest{Host: api.Host{Addr: api.Addr{A: a, B: b, C: c, D: d}}, Port: port}
}

// longName is a name of so many bytes, at least 3, of labels that are as long as they may be.
func longName(n int) string {
	var list []string
	for n > api.MaxLabel {
		size := min(api.MaxLabel, n-2)
		list = append(list, many(size, 'a'))
		n -= size + 1
	}
	return strings.Join(append(list, many(n, 'z')), ".")
}

// short is a text for a message of a test: it may be long.
func short(text string) string {
	if len(text) > 40 {
		return fmt.Sprintf("%x .. (%d bytes)", text[:40], len(text))
	}
	return fmt.Sprintf("%x", text)
}

// made is a new connection of which that login is wanted, or none.
func made(t *testing.T, user, pass string) *socks.Conn {
	t.Helper()
	c, e := socks.New(user, pass)
	if e != api.OK || c == nil {
		t.Fatalf("New(%s, %s): %v, %v", short(user), short(pass), c, e)
	}
	return c
}

// wantAdd wants so many of the bytes to be read, and none of them to be changed.
func wantAdd(t *testing.T, c *socks.Conn, text string, want int) {
	t.Helper()
	b := []byte(text)
	if n := c.Add(b); n != want {
		t.Errorf("Add(%s): %d, want %d", short(text), n, want)
	}
	if string(b) != text {
		t.Errorf("Add(%s) changes the bytes: %s", short(text), short(string(b)))
	}
}

// wantOut wants just that to be said, which is gone then.
func wantOut(t *testing.T, c *socks.Conn, want string) {
	t.Helper()
	if got := string(c.Out()); got != want {
		t.Errorf("Out: %x, want %x", got, want)
	}
	if more := c.Out(); len(more) != 0 {
		t.Errorf("Out a second time: %x", more)
	}
}

func wantState(t *testing.T, c *socks.Conn, want int) {
	t.Helper()
	if got := c.State(); got != want {
		t.Errorf("State: %d, want %d", got, want)
	}
}

func wantWants(t *testing.T, c *socks.Conn, want api.Dest, wantOK bool) {
	t.Helper()
	if d, ok := c.Wants(); d != want || ok != wantOK {
		t.Errorf("Wants: %v, %v, want %v, %v", d, ok, want, wantOK)
	}
}

func wantTell(t *testing.T, c *socks.Conn, code int, want api.Errno) {
	t.Helper()
	if e := c.Tell(code); e != want {
		t.Errorf("Tell(%d): %v, want %v", code, e, want)
	}
}

// wantMessage wants so many of the bytes to be read, and all that the chapter says to come of it; it wants to go nowhere then.
func wantMessage(t *testing.T, c *socks.Conn, text string, read int, said string, state int) {
	t.Helper()
	wantAdd(t, c, text, read)
	wantOut(t, c, said)
	wantState(t, c, state)
	wantWants(t, c, api.Dest{}, false)
}

// wantWaits wants a request to be read whole, and the connection to wait for what becomes of it.
func wantWaits(t *testing.T, c *socks.Conn, text string, read int, d api.Dest) {
	t.Helper()
	wantAdd(t, c, text, read)
	wantOut(t, c, "")
	wantState(t, c, socks.Waits)
	wantWants(t, c, d, true)
}

// moves is what stands tries: each message right and wrong, and both sorts of codes.
var moves = []func(c *socks.Conn) any{
	func(c *socks.Conn) any { return c.Add([]byte(greeting(0))) },
	func(c *socks.Conn) any { return c.Add([]byte(greeting(2, 7))) },
	func(c *socks.Conn) any { return c.Add([]byte(login("u", "p"))) },
	func(c *socks.Conn) any { return c.Add([]byte(login("user", "pass"))) },
	func(c *socks.Conn) any { return c.Add([]byte(toName(1, "a", 80))) },
	func(c *socks.Conn) any { return c.Add([]byte("\x05\x01\x00\x04")) },
	func(c *socks.Conn) any { return c.Tell(0) },
	func(c *socks.Conn) any { return c.Tell(3) },
}

// stands is all that a connection tells, and all that comes of it in a few moves; nothing is done to the connection itself.
func stands(c *socks.Conn) string {
	var b strings.Builder
	look(&b, c.Clone(), 3)
	return b.String()
}

func look(b *strings.Builder, c *socks.Conn, depth int) {
	d, ok := c.Wants()
	fmt.Fprintf(b, " %d %v %v", c.State(), d, ok)
	if depth > 0 {
		for i, move := range moves {
			next := c.Clone()
			fmt.Fprintf(b, " (%d: %v", i, move(next))
			look(b, next, depth-1)
			b.WriteString(")")
		}
	}
	fmt.Fprintf(b, " %x", c.Out())
}

// wantKept wants what is done to leave all that the connection could tell as it was.
func wantKept(t *testing.T, what string, c *socks.Conn, do func()) {
	t.Helper()
	before := stands(c)
	do()
	if after := stands(c); after != before {
		t.Errorf("%s changes the connection, in state %d:\n%s\nwas\n%s", what, c.State(), after, before)
	}
}

// brought is a new connection that each of the messages was brought to, as far as it reads them; an empty one takes what was said.
func brought(t *testing.T, user, pass string, messages ...string) *socks.Conn {
	t.Helper()
	c := made(t, user, pass)
	for _, message := range messages {
		if message == "" {
			c.Out()
			continue
		}
		wantAdd(t, c, message, len(message))
	}
	return c
}

// told is a connection that waited, behind that code.
func told(t *testing.T, c *socks.Conn, code int) *socks.Conn {
	t.Helper()
	wantTell(t, c, code, api.OK)
	return c
}

// someConns is connections in each of the states, with a user wanted and without, with what was said taken and not.
func someConns(t *testing.T) []*socks.Conn {
	t.Helper()
	free, guarded, right := greeting(0), greeting(2), login("u", "p")
	name, addr := toName(1, "a", 80), toAddr(1, 10, 0, 0, 1, 443)
	return []*socks.Conn{
		brought(t, "", ""),
		brought(t, "u", "p"),
		brought(t, "user", "pass"),
		brought(t, "u", "p", guarded),
		brought(t, "user", "pass", guarded, ""),
		brought(t, "", "", free),
		brought(t, "", "", free, ""),
		brought(t, "u", "p", guarded, right),
		brought(t, "u", "p", guarded, "", right),
		brought(t, "u", "p", guarded, right, ""),
		brought(t, "", "", free, name),
		brought(t, "", "", free, "", addr),
		brought(t, "u", "p", guarded, right, addr),
		brought(t, "u", "p", guarded, right, "", name),
		told(t, brought(t, "", "", free, name), 0),
		told(t, brought(t, "u", "p", guarded, right, "", addr), 0),
		told(t, brought(t, "", "", free, name), 3),
		brought(t, "", "", "\x04"),
		brought(t, "", "", guarded),
		brought(t, "u", "p", guarded, "", login("u", "q")),
		brought(t, "u", "p", guarded, right, toName(2, "a", 80)),
		brought(t, "", "", free, "\x05\x01\x00\x04", ""),
	}
}

// inState is those of someConns that are in this state.
func inState(t *testing.T, state int) []*socks.Conn {
	t.Helper()
	var list []*socks.Conn
	for _, c := range someConns(t) {
		if c.State() == state {
			list = append(list, c)
		}
	}
	if len(list) < 2 {
		t.Fatalf("only %d connections are in state %d", len(list), state)
	}
	return list
}
