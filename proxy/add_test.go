package proxy_test

import (
	"fmt"
	"testing"

	"sallyport/api"
	"sallyport/proxy"
)

// 18.1: no bytes are none read, in each state, and nothing comes of it.
func TestNoBytes(t *testing.T) {
	for i, c := range someConns(t) {
		wantKept(t, fmt.Sprintf("no bytes for connection %d", i), c, func() {
			for _, b := range [][]byte{nil, {}, make([]byte, 0, 9)} {
				if n := c.Add(b); n != 0 {
					t.Errorf("Add of no bytes: %d", n)
				}
			}
		})
	}
}

// 18.1: of heads of each kind no piece is read, and of whole ones just their bytes are, whatever stands behind them.
func TestReadsHeads(t *testing.T) {
	fields := []string{"Host: c", "Via: b", "Accept: x, y"}
	wantHead(t, with(tunnelLine), waits(asked(tunnelLine)))
	wantHead(t, with(tunnelLine, fields...), waits(asked(tunnelLine, fields...)))
	wantHead(t, with(getLine), fetches(asked(getLine), sent("/x", "a.b")))
	wantHead(t, with(getLine, fields...), fetches(asked(getLine, fields...), sent("/x", "a.b", fields[1:]...)))
	wantHead(t, with(postLine), answered(501))
	wantHead(t, with(postLine, fields...), answered(501))
	wantHead(t, with(getLine, "Content-Length: 4"), answered(400))
	wantHead(t, with(getLine, "Transfer-Encoding: chunked"), answered(400))
}

// 18.1: the older version is read as the newer one is.
func TestReadsOlder(t *testing.T) {
	wantHead(t, with("CONNECT a.b:443 HTTP/1.0"), waits(asked(tunnelLine)))
	wantHead(t, with("GET http://a.b/x HTTP/1.0", "X: 1"), fetches(asked(getLine, "X: 1"), sent("/x", "a.b", "X: 1")))
	wantHead(t, with("PUT http://a.b/x HTTP/1.0"), answered(501))
}

// 18.1: the longest head of a tunnel, and one of as many fields as may be, cut behind each of their bytes.
func TestReadsLongHeads(t *testing.T) {
	all := numbered(api.MaxFields)
	wantHead(t, with(tunnelLine, all...), waits(asked(tunnelLine, all...)))
	long := []string{"A: " + many(4096, 'a'), "B: "}
	long[1] += many(api.MaxHead-len(with(tunnelLine, long...)), 'b')
	if n := len(with(tunnelLine, long...)); n != api.MaxHead {
		t.Fatalf("the longest head has %d bytes", n)
	}
	wantHead(t, with(tunnelLine, long...), waits(asked(tunnelLine, long...)))
	wantHead(t, with("HEAD http://a/ HTTP/1.1", long...), answered(501))
}

// 18.1: what is wrong, at the front, in the first line, in a field, or behind it, is read with all that stands behind it.
func TestReadsWrong(t *testing.T) {
	for _, text := range []string{
		"\r\n", lines("x"), lines("GET"), lines("\x16\x03\x01"), lines("\x05\x01\x00"), lines(many(3000, 'x')),
		lines(" "), lines("  "), lines(" http://a/ HTTP/1.1"), lines("G@T http://a/ HTTP/1.1"), lines(many(65, 'G') + " http://a/ HTTP/1.1"),
		lines("GET http://a/ HTTP/1.2"), lines("GET http://a/ HTTP/2"), lines("GET http://a/ http/1.1"), lines("GET http://a/"), lines("GET http://a/ HTTP/1.1 "), lines("GET  http://a/ HTTP/1.1"), lines(" GET http://a/ HTTP/1.1"),
		lines("GET / HTTP/1.1"), lines("GET /x HTTP/1.1"), lines("GET a.b HTTP/1.1"), lines("GET a.b:80 HTTP/1.1"), lines("GET https://a/ HTTP/1.1"), lines("GET HTTP://a/ HTTP/1.1"), lines("GET http:/a/ HTTP/1.1"), lines("GET http:// HTTP/1.1"), lines("GET http:/// HTTP/1.1"), lines("GET * HTTP/1.1"),
		lines("GET http://-/ HTTP/1.1"), lines("GET http://10.0.0.256/ HTTP/1.1"), lines("GET http://a..b/ HTTP/1.1"), lines("GET http://a:/ HTTP/1.1"), lines("GET http://a:0/ HTTP/1.1"), lines("GET http://a:65536/ HTTP/1.1"), lines("GET http://u@a/ HTTP/1.1"),
		lines("GET http://a/" + many(2048, 'x') + " HTTP/1.1"), lines("GET http://a/\x00 HTTP/1.1"), lines("GET http://a/\x7f HTTP/1.1"), lines("GET http://a/\r HTTP/1.1"), lines("GET http://a/\n HTTP/1.1"),
		lines("CONNECT a HTTP/1.1"), lines("CONNECT a: HTTP/1.1"), lines("CONNECT a:0 HTTP/1.1"), lines("CONNECT http://a:1/ HTTP/1.1"), lines("CONNECT a:1/ HTTP/1.1"), lines("CONNECT / HTTP/1.1"), lines("CONNECT :1 HTTP/1.1"),
		lines("POST / HTTP/1.1"), lines("connect a:1 HTTP/1.1"), lines("Connect a:1 HTTP/1.1"), lines("HEAD a HTTP/1.1"),
		with(getLine, "x"), with(getLine, ": x"), with(getLine, "x y: z"), with(getLine, " x: y"), with(getLine, "x : y"), with(getLine, "x: \x00"), with(getLine, "x: \x7f"), with(getLine, "x: \xff"), with(getLine, "x: "+many(4097, 'y')), with(getLine, many(65, 'x')+": y"),
		with(getLine, "x: y\r"), with(getLine, "x: y\nz: 1"), with(getLine, "\rx: y"), with(getLine, "X: 1", "y"), with(getLine, "Content-Length: 0", "y\x00: z"),
		with(tunnelLine, "x"), with(tunnelLine, "x: \x01"), with(postLine, "x"), with(postLine, "Content-Length: 3", "\xe9: y"),
		with(getLine, numbered(65)...), with(tunnelLine, numbered(65)...), with(postLine, numbered(66)...),
	} {
		wantWrong(t, text)
	}
}

// 18.1: what is longer than a head may be, and has no end within that, is wrong as soon as that is sure.
func TestReadsTooLong(t *testing.T) {
	for _, text := range []string{
		many(api.MaxHead, 'x'), many(api.MaxHead, 0), many(api.MaxHead, '\r'), many(api.MaxHead, '\n'), tunnelLine + many(api.MaxHead-len(tunnelLine), ' '),
		(with(tunnelLine, "A: "+many(4096, 'a'), "B: "+many(4096, 'b')))[:api.MaxHead],
	} {
		wantWrong(t, text)
	}
	c := proxy.New()
	wantAdd(t, c, many(api.MaxHead-1, 'x'), 0)
	wantAdd(t, c, many(api.MaxHead-1, 'x')+"x", api.MaxHead)
	wantComes(t, c, answered(400))
	long := []string{"A: " + many(4096, 'a'), "B: "}
	long[1] += many(api.MaxHead+1-len(with(tunnelLine, long...)), 'b')
	text := with(tunnelLine, long...)
	if len(text) != api.MaxHead+1 {
		t.Fatalf("the head has %d bytes", len(text))
	}
	wantWrong(t, text[:api.MaxHead])
	c = proxy.New()
	wantAdd(t, c, text, len(text))
	wantComes(t, c, answered(400))
}

// 18.1: much behind a head changes nothing: the head alone is read, and all of what is wrong.
func TestReadsMuchBehind(t *testing.T) {
	much := many(3*api.MaxBytes, 'x')
	for _, c := range []struct {
		text string
		read int
		want comes
	}{
		{with(tunnelLine), len(with(tunnelLine)), waits(asked(tunnelLine))},
		{with(getLine), len(with(getLine)), fetches(asked(getLine), sent("/x", "a.b"))},
		{with(postLine), len(with(postLine)), answered(501)},
		{with(getLine, "Content-Length: 1"), len(with(getLine, "Content-Length: 1")), answered(400)},
		{"x\r\n\r\n", 5 + len(much), answered(400)},
		{"", len(much), answered(400)},
	} {
		conn := proxy.New()
		wantAdd(t, conn, c.text+much, c.read)
		wantComes(t, conn, c.want)
	}
}

// 18.1: in each state but Reads nothing is read and nothing is said, whatever comes: heads, pieces of them, bodies, what is wrong.
func TestReadsNothing(t *testing.T) {
	for _, state := range []int{proxy.Waits, proxy.Fetches, proxy.Open, proxy.Passes, proxy.Over} {
		for i, c := range inState(t, state) {
			wantKept(t, fmt.Sprintf("what comes to connection %d of state %d", i, state), c, func() {
				for _, text := range append([]string{"x\r\n\r\n", with(getLine, "Content-Length: 1"), many(api.MaxHead, 'x'), many(600, 0)}, behind...) {
					for range 2 {
						wantAdd(t, c, text, 0)
						if got := c.State(); got != state {
							t.Errorf("Add(%s) in state %d: state %d", short(text), state, got)
						}
					}
				}
			})
			quiet(c)
			wantAdd(t, c, with(postLine), 0)
			wantOut(t, c, "")
		}
	}
}
