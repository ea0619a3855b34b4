package proxy_test

import (
	"math"
	"testing"

	"sallyport/api"
	"sallyport/proxy"
)

// 18.3: all that was said, and none of it a second time, wherever Out is called between.
func TestOut(t *testing.T) {
	tunnel, get := with(tunnelLine), with(getLine)
	type step struct {
		do   func(c *proxy.Conn)
		said string
	}
	add := func(text string, read int) func(c *proxy.Conn) {
		return func(c *proxy.Conn) { wantAdd(t, c, text, read) }
	}
	tell := func(code int, e api.Errno) func(c *proxy.Conn) {
		return func(c *proxy.Conn) { wantTell(t, c, code, e) }
	}
	pass := func(e api.Errno) func(c *proxy.Conn) { return func(c *proxy.Conn) { wantPass(t, c, e) } }
	for _, steps := range [][]step{
		{{add(tunnel[:9], 0), ""}, {add(tunnel, len(tunnel)), ""}, {tell(200, api.OK), ownText(200)}, {add("more", 0), ""}, {tell(200, api.ErrClosed), ""}},
		{{add(tunnel, len(tunnel)), ""}, {tell(404, api.ErrArg), ""}, {tell(503, api.OK), ownText(503)}, {tell(503, api.ErrClosed), ""}},
		{{add(get, len(get)), ""}, {tell(200, api.ErrArg), ""}, {tell(504, api.OK), ownText(504)}, {pass(api.ErrClosed), ""}},
		{{add(get, len(get)), ""}, {pass(api.OK), ""}, {tell(400, api.ErrClosed), ""}, {pass(api.ErrClosed), ""}},
		{{add("x\r\n\r\n"+get, 5+len(get)), ownText(400)}, {add(get, 0), ""}, {tell(501, api.ErrClosed), ""}},
		{{add(with(postLine)+"x", len(with(postLine))), ownText(501)}, {add("x\r\n\r\n", 0), ""}},
		{{add(with(getLine, "Content-Length: 1")+"x", len(with(getLine, "Content-Length: 1"))), ownText(400)}, {add("x", 0), ""}},
	} {
		for taken := range 1 << len(steps) {
			c := proxy.New()
			wantOut(t, c, "")
			said := ""
			for i, step := range steps {
				step.do(c)
				said += step.said
				if taken>>i&1 == 1 {
					wantOut(t, c, said)
					said = ""
				}
			}
			wantOut(t, c, said)
		}
	}
}

// 18.3: the own answer of each code, and of no other one.
func TestOwn(t *testing.T) {
	for code := -1100; code < 70000; code++ {
		if got := string(proxy.Own(code)); got != ownText(code) {
			t.Errorf("Own(%d): %q, want %q", code, got, ownText(code))
		}
	}
	for _, code := range wrongCodes {
		if got := proxy.Own(code); len(got) != 0 {
			t.Errorf("Own(%d): %q, want nothing", code, got)
		}
	}
	for shift := 9; shift < 64; shift++ {
		for _, code := range rightCodes {
			if got := proxy.Own(code | 1<<shift); len(got) != 0 {
				t.Errorf("Own(%d): %q, want nothing", code|1<<shift, got)
			}
		}
	}
	if len(proxy.Own(math.MinInt)) != 0 || len(proxy.Own(math.MaxInt)) != 0 {
		t.Error("Own of a code at an end of all numbers tells something")
	}
}

// 18.3: what is said of a code is its own answer, which a second Own tells again.
func TestOwnIsSaid(t *testing.T) {
	for _, code := range rightCodes {
		c := told(t, brought(t, with(tunnelLine)), code)
		if said, own := string(c.Out()), string(proxy.Own(code)); said != own || own == "" {
			t.Errorf("%q is said of %d, whose own answer is %q", said, code, own)
		}
	}
}
