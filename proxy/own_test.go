package proxy_test

import (
	"fmt"
	"math"
	"testing"

	"sallyport/api"
	"sallyport/proxy"
)

// Rule 4: bytes that were handed in are neither changed nor kept, be they read or not.
func TestHandedIn(t *testing.T) {
	for _, texts := range [][]string{
		{fullGet[:20], fullGet + "more"},
		{with(getLine, "Host: h", "X: 1"), "more"},
		{with(tunnelLine, "X: 1", "Y: 2")},
		{with(postLine, "X: 1") + "body"},
		{"x\r\n\r\nmore"},
		{with(getLine, "Content-Length: 1") + "y"},
	} {
		c := proxy.New()
		for _, text := range texts {
			b := []byte(text)
			c.Add(b)
			if string(b) != text {
				t.Errorf("Add changes the bytes: %q, were %q", b, text)
			}
			wantKept(t, "what is written into the bytes", c, func() {
				for i := range b {
					b[i] ^= 0x20
				}
			})
		}
	}
	b := []byte(with(getLine, "X: some value"))
	c := proxy.New()
	c.Add(b)
	clear(b)
	wantStands(t, c, fetches(asked(getLine, "X: some value"), sent("/x", "a.b", "X: some value")))
}

// scribble writes over all fields of a list, and behind its end as far as its memory goes.
func scribble(l []api.Field) {
	l = l[:cap(l)]
	for i := range l {
		l[i] = api.Field{Name: "Junk", Value: "junk"}
	}
}

// Rule 4: what was handed out may be written over, and written on behind its end, and nothing that the connection tells changes; nor does anything else that was handed out.
func TestHandedOut(t *testing.T) {
	for i, c := range someConns(t) {
		d := c.Clone()
		wantKept(t, fmt.Sprintf("what is written into what connection %d hands out", i), c, func() {
			r, _ := c.Wants()
			again, _ := c.Wants()
			sends, more := c.Sends(), c.Sends()
			fields, text := fmt.Sprint(again), string(more)
			scribble(r.Fields)
			clear(sends[:cap(sends)])
			if fmt.Sprint(again) != fields || string(more) != text {
				t.Errorf("what connection %d handed out a second time is another one now", i)
			}
		})
		wantKept(t, fmt.Sprintf("what is written into what connection %d hands out, of its clone,", i), d, func() {
			r, _ := c.Wants()
			scribble(r.Fields)
			sends, out := c.Sends(), c.Out()
			clear(sends[:cap(sends)])
			clear(out[:cap(out)])
		})
	}
}

// Rule 4: the fields that were handed out stay as they are, whatever is told later.
func TestHandedOutStays(t *testing.T) {
	c := brought(t, fullGet)
	r, _ := c.Wants()
	sends, wanted := c.Sends(), fmt.Sprint(r)
	text := string(sends)
	wantPass(t, c, api.OK)
	c.Sends()
	if string(sends) != text || fmt.Sprint(r) != wanted {
		t.Errorf("what was handed out is %q, %v now", sends, r)
	}
	d := brought(t, with(tunnelLine, "X: 1"))
	r, _ = d.Wants()
	wantTell(t, d, 502, api.OK)
	d.Out()
	if !same(r, asked(tunnelLine, "X: 1")) {
		t.Errorf("what was handed out is %v now", r)
	}
}

// Rule 4: an own answer's bytes are the caller's own, each time anew.
func TestOwnHandedOut(t *testing.T) {
	for _, code := range rightCodes {
		c := told(t, brought(t, with(tunnelLine)), code)
		d := c.Clone()
		first := proxy.Own(code)
		for _, b := range [][]byte{first, proxy.Own(code), c.Out()} {
			b = b[:cap(b)]
			for i := range b {
				b[i] = 0xee
			}
		}
		wantOut(t, d, ownText(code))
		if got := string(proxy.Own(code)); got != ownText(code) {
			t.Errorf("Own(%d) is %q, as another one was written into", code, got)
		}
	}
}

// 18.3: a clone stands where the connection does: its state, what is wanted, what is sent on, and what was said.
func TestCloneStandsThere(t *testing.T) {
	for i, c := range someConns(t) {
		d := c.Clone()
		if d == nil || d == c {
			t.Fatalf("Clone of connection %d: %p, of %p", i, d, c)
		}
		r, ok := c.Wants()
		clone, cloneOK := d.Wants()
		if d.State() != c.State() || !same(r, clone) || ok != cloneOK || string(c.Sends()) != string(d.Sends()) {
			t.Errorf("Clone of connection %d stands elsewhere", i)
		}
		for _, code := range rightCodes {
			a, b := c.Clone(), d.Clone()
			for _, text := range []string{"", with(getLine), with(tunnelLine)} {
				if n, m := a.Add([]byte(text)), b.Add([]byte(text)); n != m {
					t.Errorf("Add: %d, of the clone %d", n, m)
				}
			}
			if e, f := a.Tell(code), b.Tell(code); e != f || a.State() != b.State() {
				t.Errorf("Tell(%d): %v, of the clone %v", code, e, f)
			}
			if said, of := string(a.Out()), string(b.Out()); said != of {
				t.Errorf("Out: %q, of the clone %q", said, of)
			}
		}
		if said, of := string(c.Out()), string(d.Out()); said != of {
			t.Errorf("Out: %q, of the clone %q", said, of)
		}
	}
}

// 18.3: a clone is a connection of its own: what is done to the one changes nothing of the other, what is said, wanted and sent on included.
func TestCloneIsApart(t *testing.T) {
	changes := []func(c *proxy.Conn){
		func(c *proxy.Conn) { c.Out() },
		func(c *proxy.Conn) { c.Tell(200) },
		func(c *proxy.Conn) { c.Tell(502) },
		func(c *proxy.Conn) { c.Pass() },
		func(c *proxy.Conn) { c.Pass(); c.Tell(200) },
		func(c *proxy.Conn) { c.Add([]byte("x\r\n\r\n")) },
		func(c *proxy.Conn) { c.Add([]byte(with(getLine, "Z: 1"))) },
		func(c *proxy.Conn) { c.Add([]byte(with(tunnelLine, "Z: 1"))) },
		func(c *proxy.Conn) { c.Add([]byte(with(postLine))) },
		func(c *proxy.Conn) {
			r, _ := c.Wants()
			scribble(r.Fields)
			sends := c.Sends()
			clear(sends)
		},
	}
	for i := range someConns(t) {
		for k, change := range changes {
			c := someConns(t)[i]
			d := c.Clone()
			wantKept(t, fmt.Sprintf("change %d of the clone of %d", k, i), c, func() { change(d) })
			c = someConns(t)[i]
			d = c.Clone()
			wantKept(t, fmt.Sprintf("change %d of connection %d, of its clone,", k, i), d, func() { change(c) })
		}
	}
}

// Rule 2: of a connection that no call made the calls that tell an error answer ErrNil ahead of all else, the other calls zero values, and nothing is done.
func TestUnmade(t *testing.T) {
	for _, c := range []*proxy.Conn{nil, {}, new(proxy.Conn)} {
		for range 2 {
			for _, text := range append(behind, "x\r\n\r\n", many(api.MaxHead, 'x'), fullGet) {
				wantAdd(t, c, text, 0)
				wantComes(t, c, comes{})
			}
			if n := c.Add(nil); n != 0 {
				t.Errorf("Add(nil): %d", n)
			}
			for _, code := range append(append([]int{math.MaxInt}, wrongCodes...), rightCodes...) {
				if e := c.Tell(code); e != api.ErrNil {
					t.Errorf("Tell(%d): %v, want ErrNil", code, e)
				}
			}
			if e := c.Pass(); e != api.ErrNil {
				t.Errorf("Pass: %v, want ErrNil", e)
			}
			if r, ok := c.Wants(); ok || !same(r, api.Request{}) {
				t.Errorf("Wants: %v, %v", r, ok)
			}
			if d := c.Clone(); d != nil {
				t.Errorf("Clone: %v, want nil", d)
			}
			wantComes(t, c, comes{})
		}
	}
}
