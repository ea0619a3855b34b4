package proxy_test

import (
	"fmt"
	"testing"

	"sallyport/api"
	"sallyport/proxy"
)

// 18.2: of a tunnel each code is told: its own answer is said; behind 200 the connection is open, else over.
func TestTellWaits(t *testing.T) {
	for i := range inState(t, proxy.Waits) {
		for _, code := range rightCodes {
			c := inState(t, proxy.Waits)[i]
			wantTell(t, c, code, api.OK)
			wantComes(t, c, answered(code))
			wantAdd(t, c, with(getLine), 0)
		}
	}
	c := brought(t, with(tunnelLine))
	wantTell(t, c, 200, api.OK)
	if c.State() != proxy.Open {
		t.Errorf("state %d behind 200", c.State())
	}
}

// 18.2: of what is fetched each code but 200 is told: its own answer is said, and the connection is over.
func TestTellFetches(t *testing.T) {
	for i := range inState(t, proxy.Fetches) {
		for _, code := range rightCodes {
			c := inState(t, proxy.Fetches)[i]
			if code == 200 {
				wantKept(t, "200 of what is fetched", c, func() { wantTell(t, c, code, api.ErrArg) })
				continue
			}
			wantTell(t, c, code, api.OK)
			wantComes(t, c, answered(code))
			wantAdd(t, c, with(getLine), 0)
		}
	}
}

// 18.2: a 200 that was refused keeps no other code, and no Pass, from what is fetched.
func TestTellBehindRefused(t *testing.T) {
	for _, code := range []int{200, 404, 0} {
		c := brought(t, with(getLine))
		wantTell(t, c, code, api.ErrArg)
		wantStands(t, c, fetches(asked(getLine), sent("/x", "a.b")))
		wantTell(t, c.Clone(), 502, api.OK)
		wantPass(t, c, api.OK)
		wantComes(t, c, passes(sent("/x", "a.b")))
	}
	c := brought(t, with(tunnelLine))
	wantTell(t, c, 201, api.ErrArg)
	wantPass(t, c, api.ErrClosed)
	wantTell(t, c, 200, api.OK)
	wantComes(t, c, answered(200))
}

// 18.2: a code that there is no own answer of is refused in each state, ahead of the state, and changes nothing.
func TestTellWrongCodes(t *testing.T) {
	for i, c := range someConns(t) {
		wantKept(t, fmt.Sprintf("wrong codes of connection %d", i), c, func() {
			for _, code := range wrongCodes {
				wantTell(t, c, code, api.ErrArg)
			}
		})
	}
	c, d := brought(t, with(tunnelLine)), brought(t, with(postLine))
	right := map[int]bool{}
	for _, code := range rightCodes {
		right[code] = true
	}
	for code := -1100; code < 70000; code++ {
		if !right[code] {
			wantTell(t, c, code, api.ErrArg)
			wantTell(t, d, code, api.ErrArg)
		}
	}
	for shift := 9; shift < 64; shift++ {
		for _, code := range rightCodes {
			wantTell(t, c, code|1<<shift, api.ErrArg)
			wantTell(t, c, -code, api.ErrArg)
		}
	}
	wantComes(t, c, waits(asked(tunnelLine)))
	wantComes(t, d, answered(501))
}

// 18.2: in each state but Waits and Fetches a Tell is refused, with each code, 200 too, and changes nothing.
func TestTellClosed(t *testing.T) {
	for _, state := range []int{proxy.Reads, proxy.Open, proxy.Passes, proxy.Over} {
		for i, c := range inState(t, state) {
			wantKept(t, fmt.Sprintf("what is told to connection %d of state %d", i, state), c, func() {
				for _, code := range rightCodes {
					wantTell(t, c, code, api.ErrClosed)
				}
			})
		}
	}
}

// 18.2: a second Tell is refused, whatever the first one told; nothing is said a second time.
func TestTellTwice(t *testing.T) {
	for _, text := range []string{with(tunnelLine), with(getLine)} {
		for _, code := range rightCodes {
			if text == with(getLine) && code == 200 {
				continue
			}
			c := told(t, brought(t, text), code)
			wantKept(t, fmt.Sprintf("a second Tell behind %d", code), c, func() {
				for _, again := range rightCodes {
					wantTell(t, c, again, api.ErrClosed)
				}
				for _, again := range wrongCodes {
					wantTell(t, c, again, api.ErrArg)
				}
				wantPass(t, c, api.ErrClosed)
			})
			wantOut(t, c, ownText(code))
			wantTell(t, c, 502, api.ErrClosed)
			wantOut(t, c, "")
		}
	}
}

// 18.2: Pass is taken where something is fetched, and nowhere else; a second one is refused, and what is sent on is told still.
func TestPass(t *testing.T) {
	for i, c := range someConns(t) {
		if c.State() != proxy.Fetches {
			wantKept(t, fmt.Sprintf("Pass of connection %d", i), c, func() { wantPass(t, c, api.ErrClosed) })
			continue
		}
		sends := string(c.Sends())
		if sends == "" {
			t.Errorf("connection %d fetches, and nothing is sent on", i)
		}
		wantPass(t, c, api.OK)
		wantComes(t, c, passes(sends))
		wantKept(t, fmt.Sprintf("a second Pass of connection %d", i), c, func() { wantPass(t, c, api.ErrClosed) })
		wantAdd(t, c, with(tunnelLine), 0)
		wantTell(t, c, 200, api.ErrClosed)
		wantComes(t, c, passes(sends))
	}
}
