package socks_test

import (
	"fmt"
	"math"
	"testing"

	"sallyport/api"
	"sallyport/socks"
)

// 17.1: in Waits, Open and Over nothing is read and nothing is said, whatever comes: messages, pieces of them, what is wrong.
func TestReadsNothing(t *testing.T) {
	for _, state := range []int{socks.Waits, socks.Open, socks.Over} {
		for i, c := range inState(t, state) {
			wantKept(t, fmt.Sprintf("what comes to connection %d of state %d", i, state), c, func() {
				for _, text := range behind {
					for range 2 {
						wantAdd(t, c, text, 0)
						wantState(t, c, state)
					}
				}
				for _, text := range []string{"\x04", "\x01", "\x05\x00", "\x05\x01\x00\x04", "\x05\x01\x01", many(600, 0)} {
					wantAdd(t, c, text, 0)
				}
			})
		}
	}
}

// 17.2: where the client wants to go is told in Waits alone, and as often as it is asked.
func TestWants(t *testing.T) {
	free := brought(t, "", "", greeting(0))
	for range 2 {
		wantWants(t, free, api.Dest{}, false)
	}
	for _, c := range []struct {
		message string
		d       api.Dest
	}{
		{toName(1, "Example.com", 443), named("example.com", 443)},
		{toName(1, longName(253), 65535), named(longName(253), 65535)},
		{toAddr(1, 10, 1, 2, 3, 80), at(10, 1, 2, 3, 80)},
		{toAddr(1, 0, 0, 0, 0, 1), at(0, 0, 0, 0, 1)},
	} {
		conn := free.Clone()
		wantAdd(t, conn, c.message, len(c.message))
		for range 3 {
			wantWants(t, conn, c.d, true)
			wantState(t, conn, socks.Waits)
			wantAdd(t, conn, toName(1, "other", 1), 0)
		}
		for _, code := range rightCodes {
			gone := told(t, conn.Clone(), code)
			wantWants(t, gone, api.Dest{}, false)
			wantWants(t, gone.Clone(), api.Dest{}, false)
		}
		wantWants(t, conn, c.d, true)
	}
	for _, c := range someConns(t) {
		if _, ok := c.Wants(); ok != (c.State() == socks.Waits) {
			t.Errorf("Wants in state %d: %v", c.State(), ok)
		}
		if d, ok := c.Wants(); !ok && d != (api.Dest{}) {
			t.Errorf("Wants in state %d: %v, false", c.State(), d)
		}
	}
}

// 17.2: the reply of each code, with the destination 0.0.0.0, port 0, whatever the client wanted; with 0 the connection is open, else over.
func TestTell(t *testing.T) {
	for i, waits := range inState(t, socks.Waits) {
		before := string(waits.Clone().Out())
		for _, code := range rightCodes {
			c := waits.Clone()
			wantTell(t, c, code, api.OK)
			state := socks.Over
			if code == 0 {
				state = socks.Open
			}
			wantState(t, c, state)
			wantWants(t, c, api.Dest{}, false)
			wantOut(t, c, before+string([]byte{5, byte(code), 0, 1, 0, 0, 0, 0, 0, 0}))
			wantAdd(t, c, toName(1, "a", 80), 0)
			if t.Failed() {
				t.Fatalf("above: connection %d, code %d", i, code)
			}
		}
	}
}

// 17.2: a second Tell is refused, whatever the first one told, and whatever it tells; so is one in each state but Waits. A code that may not be goes first.
func TestTellRefused(t *testing.T) {
	for i, c := range someConns(t) {
		wantKept(t, fmt.Sprintf("what is refused of connection %d", i), c, func() {
			for _, code := range wrongCodes {
				wantTell(t, c, code, api.ErrArg)
			}
			for _, code := range rightCodes {
				if c.State() != socks.Waits {
					wantTell(t, c, code, api.ErrClosed)
				}
			}
		})
		if c.State() != socks.Waits {
			continue
		}
		for _, code := range rightCodes {
			c := told(t, c.Clone(), code)
			wantKept(t, fmt.Sprintf("a second Tell behind %d", code), c, func() {
				for _, again := range rightCodes {
					wantTell(t, c, again, api.ErrClosed)
				}
				for _, again := range wrongCodes {
					wantTell(t, c, again, api.ErrArg)
				}
			})
		}
	}
}

// 17.2: a code is not cut to a byte: of those near 256 and its multiples none is taken.
func TestTellWide(t *testing.T) {
	c := inState(t, socks.Waits)[0]
	wantKept(t, "codes that are too wide", c, func() {
		for shift := 4; shift < 64; shift++ {
			for code := range 9 {
				wantTell(t, c, code|1<<shift, api.ErrArg)
				wantTell(t, c, -1-code, api.ErrArg)
			}
		}
		wantTell(t, c, math.MinInt+1, api.ErrArg)
	})
	wantTell(t, c, 8, api.OK)
}
