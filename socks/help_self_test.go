package socks_test

import (
	"testing"

	"sallyport/socks"
)

// What the other tests look through tells apart connections that differ in one thing alone: else they would tell nothing.
func TestStandsTellsApart(t *testing.T) {
	free, guarded, right := greeting(0), greeting(2), login("u", "p")
	for _, c := range []struct {
		what string
		a, b *socks.Conn
	}{
		{"a user that is wanted and none", made(t, "", ""), made(t, "u", "p")},
		{"users", made(t, "u", "p"), made(t, "w", "p")},
		{"passwords", made(t, "user", "pass"), made(t, "user", "past")},
		{"passwords behind the choice", brought(t, "u", "p", guarded), brought(t, "u", "q", guarded)},
		{"what was said, taken and not", brought(t, "", "", free), brought(t, "", "", free, "")},
		{"what was said by different ways", brought(t, "", "", free), brought(t, "u", "p", guarded, right)},
		{"names", brought(t, "", "", free, toName(1, "a", 80)), brought(t, "", "", free, toName(1, "b", 80))},
		{"addresses", brought(t, "", "", free, toAddr(1, 10, 0, 0, 1, 80)), brought(t, "", "", free, toAddr(1, 10, 0, 0, 2, 80))},
		{"ports", brought(t, "", "", free, toName(1, "a", 80)), brought(t, "", "", free, toName(1, "a", 81))},
		{"asking and waiting", brought(t, "", "", free, ""), brought(t, "", "", free, "", toName(1, "a", 80))},
		{"codes", told(t, brought(t, "", "", free, toName(1, "a", 80)), 1), told(t, brought(t, "", "", free, toName(1, "a", 80)), 2)},
		{"open and over", quiet(told(t, brought(t, "", "", free, toName(1, "a", 80)), 0)), quiet(brought(t, "", "", "\x04"))},
	} {
		if stands(c.a) == stands(c.b) {
			t.Errorf("%s can't be told apart", c.what)
		}
		if stands(c.a) != stands(c.a.Clone()) || stands(c.b) != stands(c.b) {
			t.Errorf("%s: what tells them apart is not the same twice", c.what)
		}
	}
}

// quiet is a connection of which all that was said is taken.
func quiet(c *socks.Conn) *socks.Conn {
	c.Out()
	return c
}

// The connections that the tests look through are in all states.
func TestSomeConns(t *testing.T) {
	for state := socks.Greets; state <= socks.Over; state++ {
		inState(t, state)
	}
}
