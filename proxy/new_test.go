package proxy_test

import (
	"slices"
	"testing"

	"sallyport/api"
	"sallyport/proxy"
)

// The chapter's example, each of its answers.
func TestExample(t *testing.T) {
	c := proxy.New()
	text := "GET http://a.b/x HTTP/1.1\r\nHost: c\r\nX: 1\r\nConnection: X\r\n\r\n"
	wantAdd(t, c, text, len(text))
	wantComes(t, c, comes{
		state: 2,
		wants: api.Request{Method: "GET", Dest: api.Dest{Host: api.Host{Name: "a.b"}, Port: 80}, Path: "/x", Fields: []api.Field{{Name: "Host", Value: "c"}, {Name: "X", Value: "1"}, {Name: "Connection", Value: "X"}}},
		sends: "GET /x HTTP/1.1\r\nHost: a.b\r\nConnection: close\r\n\r\n",
	})
	c = proxy.New()
	text = "POST http://a/ HTTP/1.1\r\n\r\n"
	wantAdd(t, c, text, len(text))
	wantComes(t, c, comes{state: 5, said: "HTTP/1.1 501 Not Implemented\r\nContent-Length: 0\r\nConnection: close\r\n\r\n"})
}

// The document's seventh and eighth examples, as far as they are this layer's.
func TestExamplesOfTheWhole(t *testing.T) {
	c := brought(t, "CONNECT c:1 HTTP/1.1\r\n\r\n")
	wantTell(t, c, 403, api.OK)
	wantComes(t, c, comes{state: proxy.Over, said: "HTTP/1.1 403 Forbidden\r\nContent-Length: 0\r\nConnection: close\r\n\r\n"})
	c = brought(t, "GET http://10.0.0.1/x HTTP/1.1\r\n\r\n")
	wantPass(t, c, api.OK)
	wantComes(t, c, comes{state: proxy.Passes, sends: "GET /x HTTP/1.1\r\nHost: 10.0.0.1\r\nConnection: close\r\n\r\n"})
}

// The numbers of the states.
func TestNumbers(t *testing.T) {
	got := []int{proxy.Reads, proxy.Waits, proxy.Fetches, proxy.Open, proxy.Passes, proxy.Over}
	if want := []int{0, 1, 2, 3, 4, 5}; !slices.Equal(got, want) {
		t.Errorf("states %v, want %v", got, want)
	}
}

// A new connection reads, has said nothing, wants nothing and sends nothing on; each New makes another one.
func TestNew(t *testing.T) {
	c, d := proxy.New(), proxy.New()
	if c == nil || d == nil || c == d {
		t.Fatalf("New: %p, %p", c, d)
	}
	wantComes(t, c, comes{})
	wantKept(t, "what is done to another connection", d, func() {
		wantAdd(t, c, with(tunnelLine), len(with(tunnelLine)))
		wantTell(t, c, 200, api.OK)
	})
	wantComes(t, d, comes{})
}
