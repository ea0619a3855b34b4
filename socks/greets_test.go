package socks_test

import (
	"fmt"
	"testing"

	"sallyport/socks"
)

// behind is what may stand behind a message: nothing, each of the messages, a piece of one, and what is wrong.
var behind = []string{
	"", "\x00", "\x01", "\x05", "\xff", "\x05\x01", greeting(0), greeting(2), greeting(0, 2) + login("u", "p"),
	login("u", "p"), login("u", "q"), login("u", "p") + toName(1, "a", 80), toName(1, "a", 80), toAddr(1, 10, 0, 0, 1, 80), toName(2, "a", 0), many(70000, 'x'),
}

// wantCuts wants no piece of a message to be read, and nothing to come of it, however often it is brought; then the whole one is read as ever, which do tells.
func wantCuts(t *testing.T, c *socks.Conn, message string, do func(c *socks.Conn)) {
	t.Helper()
	state := c.State()
	before := stands(c)
	for n := range message {
		wantAdd(t, c, message[:n], 0)
		wantState(t, c, state)
	}
	if after := stands(c); after != before {
		t.Errorf("pieces of %s change the connection:\n%s\nwas\n%s", short(message), after, before)
	}
	do(c)
}

// wantAlone wants one message alone to be read, whatever stands behind it, and just that to come of it.
func wantAlone(t *testing.T, c *socks.Conn, message, said string, state int) {
	t.Helper()
	for _, more := range behind {
		wantMessage(t, c.Clone(), message+more, len(message), said, state)
	}
	wantCuts(t, c, message, func(c *socks.Conn) { wantMessage(t, c, message, len(message), said, state) })
}

// wantWrong wants what is wrong to be read with all that stands behind it, and just that to come of it; the pieces of it that are not wrong so far are not read.
func wantWrong(t *testing.T, c *socks.Conn, message, said string) {
	t.Helper()
	for _, more := range behind {
		wantMessage(t, c.Clone(), message+more, len(message)+len(more), said, socks.Over)
	}
	wantCuts(t, c, message, func(c *socks.Conn) { wantMessage(t, c, message, len(message), said, socks.Over) })
}

// 17.1: no bytes are none read, in each state, and nothing comes of it.
func TestNoBytes(t *testing.T) {
	for i, c := range someConns(t) {
		wantKept(t, fmt.Sprintf("no bytes for connection %d", i), c, func() {
			for _, b := range [][]byte{nil, {}, make([]byte, 0, 9)} {
				if n := c.Add(b); n != 0 {
					t.Errorf("Add of no bytes: %d", n)
				}
			}
		})
	}
}

// 17.1: the wanted method is chosen wherever it stands; without a user that is 0, with one 2.
func TestGreets(t *testing.T) {
	for _, c := range []struct {
		user, pass    string
		wanted, other byte
		said          string
		state         int
	}{{"", "", 0, 2, choice0, socks.Asks}, {"u", "p", 2, 0, choice2, socks.Logs}} {
		for _, methods := range [][]byte{
			{c.wanted}, {c.wanted, c.wanted}, {c.wanted, c.other}, {c.other, c.wanted}, {c.other, c.wanted, c.other}, {c.wanted, c.other, c.wanted},
			{c.wanted, 1}, {1, c.wanted}, {255, c.wanted}, {c.wanted, 255}, {1, 3, 4, c.wanted, 5}, {128, 254, 255, c.wanted},
		} {
			wantAlone(t, made(t, c.user, c.pass), greeting(methods...), c.said, c.state)
		}
		for _, methods := range [][]byte{
			{c.other}, {c.other, c.other}, {1}, {3}, {255}, {254, 255}, {1, c.other}, {c.other, 255}, {128 + c.wanted}, {1, 3, 4, 5, 6, 7, 8, 9, 254},
		} {
			wantAlone(t, made(t, c.user, c.pass), greeting(methods...), choice255, socks.Over)
		}
	}
}

// 17.1: each method by itself, with a user wanted and without.
func TestEachMethod(t *testing.T) {
	for method := range 256 {
		message := greeting(byte(method))
		for _, user := range []string{"", "u"} {
			said, state := choice255, socks.Over
			switch {
			case user == "" && method == 0:
				said, state = choice0, socks.Asks
			case user != "" && method == 2:
				said, state = choice2, socks.Logs
			}
			wantMessage(t, made(t, user, user), message, 3, said, state)
		}
	}
}

// 17.1: as many methods as there may be: the wanted one at each place, and at none.
func TestMostMethods(t *testing.T) {
	for place := -1; place < 255; place++ {
		methods := []byte(many(255, 7))
		free, guarded, next, over := choice255, choice255, socks.Over, socks.Over
		if place >= 0 {
			methods[place] = 0
			free, next = choice0, socks.Asks
		}
		wantMessage(t, made(t, "", ""), greeting(methods...), 257, free, next)
		if place >= 0 {
			methods[place] = 2
			guarded, over = choice2, socks.Logs
		}
		wantMessage(t, made(t, "u", "p"), greeting(methods...)+"more", 257, guarded, over)
	}
	for _, c := range []struct {
		conn  *socks.Conn
		most  byte
		said  string
		state int
	}{{made(t, "", ""), 0, choice0, socks.Asks}, {made(t, "u", "p"), 2, choice2, socks.Logs}, {made(t, "u", "p"), 0, choice255, socks.Over}, {made(t, "", ""), 9, choice255, socks.Over}} {
		wantAlone(t, c.conn, greeting([]byte(many(255, c.most))...), c.said, c.state)
	}
}

// 17.1: a greeting without methods, or of another version, is wrong at that byte: nothing is said, and it is over.
func TestGreetsWrong(t *testing.T) {
	for _, user := range []string{"", "u"} {
		wantWrong(t, made(t, user, user), "\x05\x00", "")
		for version := range 256 {
			if version != 5 {
				wantMessage(t, made(t, user, user), string([]byte{byte(version)}), 1, "", socks.Over)
				wantMessage(t, made(t, user, user), string([]byte{byte(version), 1, 0}), 3, "", socks.Over)
				wantMessage(t, made(t, user, user), string([]byte{byte(version), 1, 2, 5, 1, 0}), 6, "", socks.Over)
			}
		}
		for _, version := range []string{"\x00", "\x01", "\x04", "\x06", "\xff", "G"} {
			wantWrong(t, made(t, user, user), version, "")
		}
		wantMessage(t, made(t, user, user), "\x04\x00", 2, "", socks.Over)
		wantMessage(t, made(t, user, user), login("u", "u"), 5, "", socks.Over)
	}
}
