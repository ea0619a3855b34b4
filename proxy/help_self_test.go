package proxy_test

import (
	"testing"

	"sallyport/proxy"
)

// What the other tests look through tells apart connections that differ in one thing alone: else they would tell nothing.
func TestStandsTellsApart(t *testing.T) {
	get := func(first string, fields ...string) *proxy.Conn { return brought(t, with(first, fields...)) }
	for _, c := range []struct {
		what string
		a, b *proxy.Conn
	}{
		{"reading and waiting", proxy.New(), get(tunnelLine)},
		{"waiting and fetching", get(tunnelLine), get(getLine)},
		{"methods of one destination", get("CONNECT a.b:80 HTTP/1.1"), get("GET http://a.b:80/ HTTP/1.1")},
		{"names", get("CONNECT a:1 HTTP/1.1"), get("CONNECT b:1 HTTP/1.1")},
		{"addresses", get("CONNECT 10.0.0.1:1 HTTP/1.1"), get("CONNECT 10.0.0.2:1 HTTP/1.1")},
		{"ports", get("CONNECT a:1 HTTP/1.1"), get("CONNECT a:2 HTTP/1.1")},
		{"paths", get("GET http://a/x HTTP/1.1"), get("GET http://a/y HTTP/1.1")},
		{"fields that are wanted alone", get(getLine, "TE: a"), get(getLine, "TE: b")},
		{"fields and none", get(tunnelLine), get(tunnelLine, "X: 1")},
		{"fields' order", get(tunnelLine, "X: 1", "Y: 2"), get(tunnelLine, "Y: 2", "X: 1")},
		{"what is sent on, where nothing is wanted", passed(t, get(getLine, "X: 1")), passed(t, get(getLine, "X: 2"))},
		{"fetching and passing", get(getLine), passed(t, get(getLine))},
		{"what was said, taken and not", get(postLine), quiet(get(postLine))},
		{"codes", told(t, get(tunnelLine), 502), told(t, get(tunnelLine), 503)},
		{"open and over", quiet(told(t, get(tunnelLine), 200)), quiet(told(t, get(tunnelLine), 502))},
	} {
		if stands(c.a) == stands(c.b) {
			t.Errorf("%s can't be told apart", c.what)
		}
		if stands(c.a) != stands(c.a.Clone()) || stands(c.b) != stands(c.b) {
			t.Errorf("%s: what tells them apart is not the same twice", c.what)
		}
	}
}

// The connections that the tests look through are in all states.
func TestSomeConns(t *testing.T) {
	for state := proxy.Reads; state <= proxy.Over; state++ {
		inState(t, state)
	}
}
