package proxy_test

import (
	"slices"
	"strings"
	"testing"

	"sallyport/api"
	"sallyport/proxy"
)

// longName is a name of as many bytes as one may have.
var longName = strings.Repeat("a.", (api.MaxName-1)/2) + "z"

// 18.1: a CONNECT waits, wherever it goes to.
func TestTunnels(t *testing.T) {
	for _, c := range []struct {
		target string
		dest   api.Dest
	}{
		{"a:1", named("a", 1)},
		{"a:80", named("a", 80)},
		{"Example.COM:443", named("example.com", 443)},
		{"10.0.0.1:80", at(10, 0, 0, 1, 80)},
		{"0.0.0.0:65535", at(0, 0, 0, 0, 65535)},
		{"255.255.255.255:22", at(255, 255, 255, 255, 22)},
		{longName + ":65535", named(longName, 65535)},
	} {
		wantHead(t, with("CONNECT "+c.target+" HTTP/1.1"), waits(api.Request{Method: "CONNECT", Dest: c.dest}))
	}
}

// 18.1: what a CONNECT has of fields changes nothing, those of bodies among them.
func TestTunnelFields(t *testing.T) {
	for _, fields := range [][]string{
		{"Host: other:1"},
		{"Content-Length: 0"},
		{"Content-Length: 5"},
		{"Content-Length: x", "content-length: 7"},
		{"Transfer-Encoding: chunked"},
		{"Transfer-Encoding: chunked", "Content-Length: 5"},
		{"Connection: X, Host", "X: 1", "Proxy-Authorization: y", "Host: z"},
		numbered(64),
	} {
		wantHead(t, with(tunnelLine, fields...), waits(asked(tunnelLine, fields...)))
	}
}

// 18.1: other methods than CONNECT and GET, as they stand, are answered by 501.
func TestOtherMethods(t *testing.T) {
	methods := []string{
		"HEAD", "POST", "PUT", "DELETE", "OPTIONS", "TRACE", "PATCH", "PRI", "get", "Get", "GEt", "gET", "GETS", "GE", "ET", "XGET", "GET-", "connect", "Connect", "cONNECT", "CONNECTS", "CONNEC", "GETCONNECT",
		many(64, 'M'), "!#$%&'*+-.^_`|~",
	}
	for c := range 256 {
		if 'a' <= c|0x20 && c|0x20 <= 'z' || '0' <= c && c <= '9' || c < 0x80 && strings.Contains("!#$%&'*+-.^_`|~", one(c)) {
			methods = append(methods, one(c))
		}
	}
	for _, method := range methods {
		for _, fields := range [][]string{nil, {"Content-Length: 4"}, {"Content-Length: 0"}, {"Transfer-Encoding: chunked", "Content-Length: x"}} {
			wantHead(t, with(method+" http://a.b:81/y HTTP/1.1", fields...), answered(501))
		}
	}
}

// 18.1: one length of 0 is let through, whatever its name looks like and whatever stands around it, and sent on as it is.
func TestNoLength(t *testing.T) {
	for _, name := range sizes("Content-Length") {
		wantSent(t, []string{name + ": 0"}, name+": 0")
		wantSent(t, []string{"X: 1", name + ": 0", "Y: 5"}, "X: 1", name+": 0", "Y: 5")
		for _, line := range []string{name + ":0", name + ":  \t0", name + ": 0\t "} {
			wantHead(t, with(getLine, line), fetches(asked(getLine, name+": 0"), sent("/x", "a.b", name+": 0")))
		}
	}
	wantSent(t, []string{"Connection: content-length", "Content-Length: 0"})
}

// 18.1: each other length, and more than one, is answered by 400.
func TestLengths(t *testing.T) {
	values := []string{"", "00", "000", "1", "4", "10", "01", "0 0", "0,0", "0, 0", "-0", "+0", "0x0", "0.0", "0.", "O", "x", "null", "chunked", "1048576", many(7, '9'), many(8, '9'), many(20, '9'), many(30, '0'), "18446744073709551616", "4294967296"}
	for _, name := range sizes("Content-Length") {
		for _, value := range values {
			wantHead(t, with(getLine, name+": "+value), answered(400))
			wantHead(t, with(getLine, "X: 0", name+":"+value, "Y: 0"), answered(400))
		}
		for _, others := range [][]string{{"0"}, {"1"}, {""}, {"0", "0"}, {"0", "5", "0"}} {
			fields := []string{"X: 1", name + ": 0", "Y: 0"}
			for i, value := range others {
				fields = append(fields, sizes("Content-Length")[i]+": "+value)
			}
			wantHead(t, with(getLine, fields...), answered(400))
			slices.Reverse(fields)
			wantHead(t, with(getLine, fields...), answered(400))
		}
	}
	for c := range 256 {
		if ' ' < c && c <= '~' && c != '0' {
			wantHead(t, with(getLine, "Content-Length: "+one(c)), answered(400))
		}
	}
	wantHead(t, with(getLine, "Connection: Content-Length", "Content-Length: 1"), answered(400))
	wantHead(t, with(getLine, "Connection: Content-Length", "Content-Length: 0", "Content-Length: 0"), answered(400))
}

// 18.1: a Transfer-Encoding is answered by 400, whatever it says and whatever is beside it.
func TestCodings(t *testing.T) {
	for _, name := range sizes("Transfer-Encoding") {
		for _, value := range []string{"", "chunked", "identity", "gzip, chunked", "0", "none", "Content-Length"} {
			wantHead(t, with(getLine, name+": "+value), answered(400))
			wantHead(t, with(getLine, "Content-Length: 0", name+":"+value, "X: 1"), answered(400))
			wantHead(t, with(getLine, name+": "+value, "Transfer-Encoding: "+value), answered(400))
			wantHead(t, with(getLine, "Connection: Transfer-Encoding", name+": "+value), answered(400))
		}
	}
}

// 18.1: fields whose names only begin, or end, as those of bodies do are sent on as others are.
func TestAlmostBodies(t *testing.T) {
	for _, name := range []string{"Content-Lengths", "Content-Lengt", "XContent-Length", "X-Content-Length", "Content_Length", "ContentLength", "Content", "Length", "Transfer-Encodings", "Transfer-Encodin", "XTransfer-Encoding", "Transfer_Encoding", "Content-Encoding", "Encoding"} {
		for _, value := range []string{"", "5", "chunked"} {
			wantSent(t, []string{name + ": " + value}, name+": "+value)
		}
	}
	wantSent(t, []string{"X: Content-Length: 5", "Y: Transfer-Encoding: chunked"}, "X: Content-Length: 5", "Y: Transfer-Encoding: chunked")
	wantSent(t, []string{"TE: chunked", "Connection: Content-Length, Transfer-Encoding"})
}

// bounded is a GET whose head to be sent on has so many bytes, with these parts in it besides.
func bounded(t *testing.T, size int, authority, path string, fields ...string) (text, sends string) {
	t.Helper()
	fields = append(fields, "A: "+many(4096, 'a'), "B: ")
	last := len(fields) - 1
	fields[last] += many(size-len(sent(path, authority, fields...)), 'b')
	text, sends = with("GET http://"+authority+path+" HTTP/1.1", fields...), sent(path, authority, fields...)
	if len(sends) != size || len(text) > api.MaxHead {
		t.Fatalf("%d bytes to be sent on, of %d", len(sends), len(text))
	}
	return text, sends
}

// 18.1: a GET whose head to be sent on has just MaxHead bytes is fetched, and one of a byte more is answered by 400.
func TestLongestSent(t *testing.T) {
	for _, c := range []struct {
		authority, path string
		fields          []string
	}{
		{"a", "/", nil},
		{"a.b:8080", "/x", nil},
		{"10.0.0.1:1", "/" + many(2047, 'p'), nil},
		{"a", "/", []string{"X: 1", "Y: 2", "X: 1"}},
		{"a", "/y", numbered(62)},
	} {
		for size := api.MaxHead - 2; size <= api.MaxHead+2; size++ {
			text, sends := bounded(t, size, c.authority, c.path, c.fields...)
			conn := proxy.New()
			wantAdd(t, conn, text+"more", len(text))
			if size > api.MaxHead {
				wantComes(t, conn, answered(400))
				continue
			}
			if got := string(conn.Sends()); conn.State() != proxy.Fetches || got != sends {
				t.Errorf("%d bytes: state %d, Sends %s", size, conn.State(), short(got))
			}
			wantOut(t, conn, "")
			wantPass(t, conn, api.OK)
			wantComes(t, conn, passes(sends))
		}
	}
	text, sends := bounded(t, api.MaxHead, "a", "/")
	wantCuts(t, text, func(c *proxy.Conn) {
		wantAdd(t, c, text, len(text))
		if got := string(c.Sends()); got != sends {
			t.Errorf("Sends: %s", short(got))
		}
	})
	text, _ = bounded(t, api.MaxHead+1, "a", "/")
	wantCuts(t, text, func(c *proxy.Conn) {
		wantAdd(t, c, text, len(text))
		wantComes(t, c, answered(400))
	})
}

// 18.1: what counts is what would be sent on: neither what came, nor what goes, nor how many fields there are.
func TestCountsWhatIsSent(t *testing.T) {
	gone := []string{"Host: " + many(1000, 'h'), "TE: " + many(2000, 't'), "Connection: X", "X: " + many(900, 'x'), "Y: " + many(4096, 'y')}
	gone[1] += many(api.MaxHead-len(with(getLine, gone...)), 't')
	if n := len(with(getLine, gone...)); n != api.MaxHead {
		t.Fatalf("the head has %d bytes", n)
	}
	wantSent(t, gone, gone[4])
	var lines, kept []string
	for range 62 {
		lines, kept = append(lines, "X:"+many(126, 'x')), append(kept, "X: "+many(126, 'x'))
	}
	if n := len(sent("/x", "a.b", kept...)); n > api.MaxHead {
		t.Fatalf("62 fields have %d bytes already", n)
	}
	wantHead(t, with(getLine, lines...), fetches(asked(getLine, kept...), sent("/x", "a.b", kept...)))
	lines, kept = append(lines, "X:"), append(kept, "X: ")
	more := api.MaxHead - len(sent("/x", "a.b", kept...))
	lines[62], kept[62] = lines[62]+many(more, 'x'), kept[62]+many(more, 'x')
	if n := len(sent("/x", "a.b", kept...)); n != api.MaxHead {
		t.Fatalf("63 fields have %d bytes", n)
	}
	wantHead(t, with(getLine, lines...), fetches(asked(getLine, kept...), sent("/x", "a.b", kept...)))
	wantHead(t, with(getLine, append(lines[:62:62], lines[62]+"x")...), answered(400))
	wantHead(t, with(getLine, append(lines, "Z:")...), answered(400))
}

// 18.1: which goes first, where several are so: what is wrong ahead of the method, the method ahead of what a GET may not have.
func TestFirst(t *testing.T) {
	long := []string{"A:" + many(4096, 'a'), "B:"}
	long[1] += many(api.MaxHead-len(with(getLine, long...)), 'b')
	wantWrong(t, with(postLine, "Content-Length: 1", "x"))
	wantWrong(t, with(tunnelLine, "Transfer-Encoding: x", "x"))
	wantWrong(t, with(getLine, "Content-Length: 1", "x"))
	wantWrong(t, "POST / HTTP/1.1\r\nContent-Length: 1\r\n\r\n")
	wantHead(t, with("POST http://a/ HTTP/1.1", long...), answered(501))
	wantHead(t, with("HEAD http://a/ HTTP/1.1", "Content-Length: 1", "Transfer-Encoding: x"), answered(501))
	wantHead(t, with(getLine, long...), answered(400))
	wantHead(t, with("GET http://a/ HTTP/1.1", append(long[:1:1], long[1][:3000], "Content-Length: 1", "Transfer-Encoding: x")...), answered(400))
}
