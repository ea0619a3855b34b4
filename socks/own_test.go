package socks_test

import (
	"fmt"
	"math"
	"testing"
	"unsafe"

	"sallyport/api"
	"sallyport/socks"
)

// Rule 4: bytes that were handed in are neither changed nor kept, be they read or not.
func TestHandedIn(t *testing.T) {
	for _, messages := range [][]string{
		{greeting(2), login("u", "p"), toName(1, "some.name", 80), "more"},
		{greeting(0, 2)[:3], greeting(0, 2), login("u", "p") + "more", toAddr(1, 10, 0, 0, 1, 80), greeting(2)},
		{greeting(0), greeting(2)},
		{greeting(2), login("u", "q"), login("u", "p")},
		{greeting(2), login("u", "p"), "\x05\x01\x00\x04more"},
		{greeting(2), login("u", "p"), toName(9, "a", 80)},
		{"\x05\x00"},
	} {
		c := made(t, "u", "p")
		for _, message := range messages {
			b := []byte(message)
			c.Add(b)
			if string(b) != message {
				t.Errorf("Add changes the bytes: %x, were %x", b, message)
			}
			wantKept(t, "what is written into the bytes", c, func() {
				for i := range b {
					b[i] ^= 0x20
				}
			})
		}
	}
	b := []byte(toName(1, "some.name", 80))
	c := brought(t, "", "", greeting(0))
	c.Add(b)
	clear(b)
	wantWants(t, c, named("some.name", 80), true)
}

// Rule 4: texts that New was handed are not kept as they lie there: the connection wants the same when their memory is used for something else.
func TestTextsHandedIn(t *testing.T) {
	user, pass := []byte("user"), []byte("pass")
	c := made(t, unsafe.String(&user[0], len(user)), unsafe.String(&pass[0], len(pass)))
	d := c.Clone()
	copy(user, "junk")
	copy(pass, "junk")
	for _, c := range []*socks.Conn{c, d} {
		wantMessage(t, c, greeting(2), 3, choice2, socks.Logs)
		wantMessage(t, c.Clone(), login("junk", "junk"), 11, verdict1, socks.Over)
		wantMessage(t, c, login("user", "pass"), 11, verdict0, socks.Asks)
	}
}

// Rule 4: bytes that were handed out may be written over, and written on behind their end, and nothing that is said later changes.
func TestHandedOut(t *testing.T) {
	for i, c := range someConns(t) {
		d := c.Clone()
		d.Out()
		out := c.Out()
		want := stands(d)
		out = out[:cap(out)]
		for k := range out {
			out[k] = 0xee
		}
		if got := stands(c); got != want {
			t.Errorf("what is written into the bytes of connection %d changes it:\n%s\nwas\n%s", i, got, want)
		}
	}
	c := brought(t, "u", "p", greeting(2))
	out := c.Out()
	wantAdd(t, c, login("u", "p"), 5)
	_ = append(out[:0], "junkjunkjunk"...)
	wantOut(t, c, verdict0)
}

// What is said later does not change bytes that were handed out ahead of it.
func TestOutStays(t *testing.T) {
	c := brought(t, "u", "p", greeting(2))
	first := c.Out()
	wantAdd(t, c, login("u", "p"), 5)
	wantAdd(t, c, toName(1, "a", 80), 8)
	second := c.Out()
	wantTell(t, c, 0, api.OK)
	third := c.Out()
	if string(first) != choice2 || string(second) != verdict0 || string(third) != reply(0) || string(first[:cap(first)][:2]) != choice2 {
		t.Errorf("what was handed out is %x, %x, %x now", first, second, third)
	}
}

// 17.3: a clone stands where the connection does: its state, what is wanted of the client and where that wants to go, and what was said.
func TestCloneStandsThere(t *testing.T) {
	for i, c := range someConns(t) {
		d := c.Clone()
		if d == nil || d == c {
			t.Fatalf("Clone of connection %d: %p, of %p", i, d, c)
		}
		for k, text := range conversations {
			want := talk(c.Clone().Clone(), text)
			if got := talk(d.Clone(), text); got != want {
				t.Errorf("Clone of connection %d, conversation %d: %s, want %s", i, k, got, want)
			}
		}
		text := greeting(2) + login("u", "p") + toName(1, "a", 80)
		if got, want := talk(d, text), talk(c, text); got != want {
			t.Errorf("Clone of connection %d: %s, want %s", i, got, want)
		}
	}
}

// 17.3: a clone is a connection of its own: what is done to the one changes nothing of the other, what was said included.
func TestCloneIsItsOwn(t *testing.T) {
	changes := []func(*socks.Conn){
		func(c *socks.Conn) { c.Out() },
		func(c *socks.Conn) { clear(c.Out()) },
		func(c *socks.Conn) {
			out := c.Out()
			clear(out[:cap(out)])
		},
		func(c *socks.Conn) { c.Tell(0) },
		func(c *socks.Conn) { c.Tell(7) },
		func(c *socks.Conn) { c.Add([]byte("\x04")) },
		func(c *socks.Conn) { c.Add([]byte(greeting(0, 2))) },
		func(c *socks.Conn) { c.Add([]byte(greeting(7))) },
		func(c *socks.Conn) { c.Add([]byte(login("u", "p"))) },
		func(c *socks.Conn) { c.Add([]byte(login("u", "q"))) },
		func(c *socks.Conn) { c.Add([]byte(toName(1, "other", 7))) },
		func(c *socks.Conn) { c.Add([]byte(toName(2, "other", 7))) },
		func(c *socks.Conn) { talk(c, greeting(0, 2)+login("u", "p")+toAddr(1, 9, 9, 9, 9, 9)) },
	}
	for i := range someConns(t) {
		for k, change := range changes {
			c := someConns(t)[i]
			d := c.Clone()
			wantKept(t, fmt.Sprintf("change %d of the clone of %d", k, i), c, func() { change(d) })
			c = someConns(t)[i]
			d = c.Clone()
			wantKept(t, fmt.Sprintf("change %d of connection %d, of its clone,", k, i), d, func() { change(c) })
		}
	}
}

// What one connection is told changes no other one that New made of the same texts.
func TestConnsAreApart(t *testing.T) {
	c, d := made(t, "u", "p"), made(t, "u", "p")
	wantKept(t, "what is done to another connection", d, func() {
		talk(c, greeting(2)+login("u", "p")+toName(1, "a", 80))
	})
}

// Rule 2: of a connection that no call made Tell answers ErrNil ahead of all else, the other calls zero values, and nothing is done.
func TestUnmade(t *testing.T) {
	for _, c := range []*socks.Conn{nil, {}, new(socks.Conn)} {
		for range 2 {
			for _, text := range append(behind, "\x04", "\x05\x00", greeting(0)) {
				wantMessage(t, c, text, 0, "", 0)
			}
			if n := c.Add(nil); n != 0 {
				t.Errorf("Add(nil): %d", n)
			}
			for _, code := range append(append([]int{math.MaxInt}, wrongCodes...), rightCodes...) {
				wantTell(t, c, code, api.ErrNil)
			}
			if d := c.Clone(); d != nil {
				t.Errorf("Clone: %v, want nil", d)
			}
		}
	}
}
