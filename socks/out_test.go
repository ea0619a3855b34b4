package socks_test

import (
	"testing"

	"sallyport/api"
	"sallyport/socks"
)

// 17.3: all that was said, in order, and none of it a second time, wherever Out is called between.
func TestOut(t *testing.T) {
	steps := []struct {
		do   func(c *socks.Conn)
		said string
	}{
		{func(c *socks.Conn) { wantAdd(t, c, greeting(2), 3) }, choice2},
		{func(c *socks.Conn) { wantAdd(t, c, login("u", "p"), 5) }, verdict0},
		{func(c *socks.Conn) { wantAdd(t, c, toName(1, "a", 80), 8) }, ""},
		{func(c *socks.Conn) { wantTell(t, c, 5, api.OK) }, reply(5)},
		{func(c *socks.Conn) { wantAdd(t, c, "more", 0) }, ""},
		{func(c *socks.Conn) { wantTell(t, c, 5, api.ErrClosed) }, ""},
	}
	for taken := range 1 << len(steps) {
		c := made(t, "u", "p")
		wantOut(t, c, "")
		said := ""
		for i, step := range steps {
			step.do(c)
			said += step.said
			if taken>>i&1 == 1 {
				wantOut(t, c, said)
				said = ""
			}
		}
		wantOut(t, c, said)
	}
}

// 17.3: what ends a conversation stands behind what was said ahead of it.
func TestOutOfWhatEnds(t *testing.T) {
	free, guarded, right := greeting(0), greeting(2), login("u", "p")
	for _, c := range []struct {
		conn *socks.Conn
		said string
	}{
		{brought(t, "", "", free), choice0},
		{brought(t, "", "", guarded), choice255},
		{brought(t, "u", "p", free), choice255},
		{brought(t, "", "", "\x04"), ""},
		{brought(t, "u", "p", "\x05\x00"), ""},
		{brought(t, "u", "p", guarded, right), choice2 + verdict0},
		{brought(t, "u", "p", guarded, login("u", "q")), choice2 + verdict1},
		{brought(t, "u", "p", guarded, "\x05"), choice2},
		{brought(t, "u", "p", guarded, "", "\x05"), ""},
		{brought(t, "u", "p", guarded, right, "\x04"), choice2 + verdict0 + reply(1)},
		{brought(t, "u", "p", guarded, right, "", "\x04"), reply(1)},
		{brought(t, "u", "p", guarded, "", right, "\x05\x01\x00\x02"), verdict0 + reply(8)},
		{brought(t, "u", "p", guarded, right, toName(2, "a", 80)), choice2 + verdict0 + reply(7)},
		{brought(t, "", "", free, toName(1, "a", 0)), choice0 + reply(1)},
		{brought(t, "", "", free, toName(3, "a", 0)), choice0 + reply(7)},
		{brought(t, "", "", free, "\x05\x01\x00\x04"), choice0 + reply(8)},
		{told(t, brought(t, "", "", free, toName(1, "a", 80)), 0), choice0 + reply(0)},
		{told(t, brought(t, "u", "p", guarded, right, "", toName(1, "a", 80)), 4), reply(4)},
	} {
		wantOut(t, c.conn, c.said)
	}
}
