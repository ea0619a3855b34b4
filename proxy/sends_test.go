package proxy_test

import (
	"strings"
	"testing"

	"sallyport/api"
	"sallyport/proxy"
)

// Words of chapter 18: the Host field has the destination, without the colon and the port, if that is 80.
func TestSendsHost(t *testing.T) {
	for _, c := range []struct {
		authority, host string
		dest            api.Dest
	}{
		{"a", "a", named("a", 80)},
		{"a:80", "a", named("a", 80)},
		{"a:8", "a:8", named("a", 8)},
		{"a:81", "a:81", named("a", 81)},
		{"a:800", "a:800", named("a", 800)},
		{"a:8080", "a:8080", named("a", 8080)},
		{"a:180", "a:180", named("a", 180)},
		{"a:1", "a:1", named("a", 1)},
		{"a:443", "a:443", named("a", 443)},
		{"a:65535", "a:65535", named("a", 65535)},
		{"Example.COM", "example.com", named("example.com", 80)},
		{"Example.COM:80", "example.com", named("example.com", 80)},
		{"Example.COM:81", "example.com:81", named("example.com", 81)},
		{"x80", "x80", named("x80", 80)},
		{"10.0.0.1", "10.0.0.1", at(10, 0, 0, 1, 80)},
		{"10.0.0.1:80", "10.0.0.1", at(10, 0, 0, 1, 80)},
		{"10.0.0.1:8080", "10.0.0.1:8080", at(10, 0, 0, 1, 8080)},
		{"0.0.0.0", "0.0.0.0", at(0, 0, 0, 0, 80)},
		{"255.0.255.0:443", "255.0.255.0:443", at(255, 0, 255, 0, 443)},
		{longName, longName, named(longName, 80)},
		{longName + ":65535", longName + ":65535", named(longName, 65535)},
	} {
		r := api.Request{Method: "GET", Dest: c.dest, Path: "/"}
		wantHead(t, with("GET http://"+c.authority+"/ HTTP/1.1"), fetches(r, sent("/", c.host)))
		r.Fields = read("Host: other:99")
		wantHead(t, with("GET http://"+c.authority+"/ HTTP/1.1", "Host: other:99"), fetches(r, sent("/", c.host)))
	}
}

// Words of chapter 18: the path is that which was asked for; / where there was none.
func TestSendsPath(t *testing.T) {
	for _, path := range []string{"/", "/x", "//", "/x/", "/?", "/x?y=z&a", "/#f", "/%20", "/!~", "/http://b/", "/:80", "/a:b@c", "/GET", "/" + many(2047, 'p')} {
		r := api.Request{Method: "GET", Dest: named("a", 80), Path: path}
		wantHead(t, with("GET http://a"+path+" HTTP/1.1"), fetches(r, sent(path, "a")))
		r.Dest.Port = 81
		wantHead(t, with("GET http://a:81"+path+" HTTP/1.0"), fetches(r, sent(path, "a:81")))
	}
	r := api.Request{Method: "GET", Dest: named("a", 80), Path: "/"}
	wantHead(t, with("GET http://a HTTP/1.1"), fetches(r, sent("/", "a")))
	wantHead(t, with("GET http://a:80 HTTP/1.1"), fetches(r, sent("/", "a")))
}

// Words of chapter 18: of the request's own fields none named Host is sent on, whatever it says, and in whatever letters.
func TestSendsNoOtherHost(t *testing.T) {
	for _, name := range sizes("Host") {
		for _, value := range []string{"", "c", "a.b", "a.b:80", "x, y", "10.0.0.1:99"} {
			line := name + ": " + value
			wantSent(t, []string{line})
			wantSent(t, []string{line, "X: 1"}, "X: 1")
			wantSent(t, []string{"X: 1", line, "Y: 2", line}, "X: 1", "Y: 2")
			wantSent(t, []string{"host: d", line, "HOST: e", "X: 1", "Host: f"}, "X: 1")
		}
	}
	for _, name := range []string{"Hosts", "Hos", "X-Host", "XHost", "Host-X", "H", "Forwarded-Host", "H0st", "host-"} {
		wantSent(t, []string{name + ": c"}, name+": c")
	}
}

// fixedNames are those of the hop fields that chapter 13 lists, but for Transfer-Encoding, which a GET may not have.
var fixedNames = []string{"Connection", "Keep-Alive", "Proxy-Authenticate", "Proxy-Authorization", "Proxy-Connection", "TE", "Trailer", "Upgrade"}

// 18.5: no hop field is sent on: none of the fixed ones, in whatever letters, and wherever it stands.
func TestSendsNoHopFields(t *testing.T) {
	var all []string
	for _, name := range fixedNames {
		for _, sized := range sizes(name) {
			wantSent(t, []string{sized + ": v"})
			wantSent(t, []string{"X: 1", sized + ": v", "Y: 2", sized + ": ", "Z: 3"}, "X: 1", "Y: 2", "Z: 3")
		}
		all = append(all, name+": 1", "X-"+name+": 2")
	}
	wantSent(t, all, "X-Connection: 2", "X-Keep-Alive: 2", "X-Proxy-Authenticate: 2", "X-Proxy-Authorization: 2", "X-Proxy-Connection: 2", "X-TE: 2", "X-Trailer: 2", "X-Upgrade: 2")
}

// 18.5: nor is one that a Connection field names: one, several, twice, in other letters, ahead of it and behind it.
func TestSendsNoNamedFields(t *testing.T) {
	rest := []string{"A: 1", "B: 2", "C: 3", "a: 4", "Close: 5", "Host: h"}
	for _, c := range []struct {
		connections []string
		kept        []string
	}{
		{nil, []string{"A: 1", "B: 2", "C: 3", "a: 4", "Close: 5"}},
		{[]string{""}, []string{"A: 1", "B: 2", "C: 3", "a: 4", "Close: 5"}},
		{[]string{"A"}, []string{"B: 2", "C: 3", "Close: 5"}},
		{[]string{"a"}, []string{"B: 2", "C: 3", "Close: 5"}},
		{[]string{"close"}, []string{"A: 1", "B: 2", "C: 3", "a: 4"}},
		{[]string{"keep-alive"}, []string{"A: 1", "B: 2", "C: 3", "a: 4", "Close: 5"}},
		{[]string{"A, C"}, []string{"B: 2", "Close: 5"}},
		{[]string{"C,\tA ,,b,"}, []string{"Close: 5"}},
		{[]string{"A, A"}, []string{"B: 2", "C: 3", "Close: 5"}},
		{[]string{"A", "B"}, []string{"C: 3", "Close: 5"}},
		{[]string{"A", "a, c", "CLOSE"}, []string{"B: 2"}},
		{[]string{"Host"}, []string{"A: 1", "B: 2", "C: 3", "a: 4", "Close: 5"}},
		{[]string{"host, b"}, []string{"A: 1", "C: 3", "a: 4", "Close: 5"}},
		{[]string{"TE, Connection, Upgrade, B"}, []string{"A: 1", "C: 3", "a: 4", "Close: 5"}},
		{[]string{"A B, C D"}, []string{"A: 1", "B: 2", "C: 3", "a: 4", "Close: 5"}},
		{[]string{"A;B"}, []string{"A: 1", "B: 2", "C: 3", "a: 4", "Close: 5"}},
		{[]string{"D, AA"}, []string{"A: 1", "B: 2", "C: 3", "a: 4", "Close: 5"}},
	} {
		for _, name := range sizes("Connection") {
			var lines []string
			for _, value := range c.connections {
				lines = append(lines, name+": "+value)
			}
			wantSent(t, append(lines[:len(lines):len(lines)], rest...), c.kept...)
			wantSent(t, append(rest[:len(rest):len(rest)], lines...), c.kept...)
			for i, line := range lines {
				mixed := append(append(append([]string{line}, rest[:2]...), lines[:i]...), rest[2:]...)
				wantSent(t, append(mixed, lines[i:]...), c.kept...)
			}
		}
	}
}

// Words of chapter 18: other fields are sent on in order, each as often as it came, its name as it was sent.
func TestSendsOthers(t *testing.T) {
	for _, fields := range [][]string{
		{"X: 1"},
		{"x: 1", "X: 2", "x: 1", "x: 1"},
		{"Z: 1", "A: 2", "M: 3", "A: 1"},
		{"Accept: text/html, */*;q=0.8", "User-Agent: x (y; z) w/1.0", "Cookie: a=b; c=\"d\"", "Cache-Control: no-store", "Via: 1.1 p", "Range: bytes=0-1"},
		{"X: a: b", "Y: :", "Z: ,"},
		{"X: a \t b", "!#$%&'*+-.^_`|~: !~"},
		{"X: ", "Y: "},
		{many(64, 'n') + ": " + many(4096, 'v')},
	} {
		wantSent(t, fields, fields...)
	}
	came := []string{"X:1", "Y: \t 2\t ", "Z:", "W:  "}
	means := []string{"X: 1", "Y: 2", "Z: ", "W: "}
	wantHead(t, with(getLine, came...), fetches(asked(getLine, means...), sent("/x", "a.b", means...)))
}

// 18.5: of a request of as many fields as may be, all others are sent on too, though they be more than MaxFields with both of the proxy's own.
func TestSendsAllFields(t *testing.T) {
	for n := range api.MaxFields + 1 {
		fields := numbered(n)
		wantSent(t, fields, fields...)
	}
	fields := numbered(api.MaxFields)
	kept := append(append(numbered(10)[:10:10], fields[11:40]...), fields[42:63]...)
	fields[10], fields[40], fields[41], fields[63] = "Host: h", "Connection: Q", "Q: 1", "TE: x"
	wantSent(t, fields, kept...)
}

// 18.2: what is wanted is told in Waits and Fetches alone, what is sent on in Fetches and Passes alone, whatever led there.
func TestWantsAndSendsByState(t *testing.T) {
	tunnel, get := asked(tunnelLine, "X: 1", "TE: y"), asked(getLine, "X: 1", "TE: y")
	sends := sent("/x", "a.b", "X: 1")
	newTunnel := func() *proxy.Conn { return brought(t, with(tunnelLine, "X: 1", "TE: y")) }
	newGet := func() *proxy.Conn { return brought(t, with(getLine, "X: 1", "TE: y")) }
	wantComes(t, proxy.New(), comes{})
	wantComes(t, newTunnel(), waits(tunnel))
	wantComes(t, newGet(), fetches(get, sends))
	wantComes(t, passed(t, newGet()), passes(sends))
	for _, code := range rightCodes {
		wantComes(t, told(t, newTunnel(), code), answered(code))
		if code != 200 {
			wantComes(t, told(t, newGet(), code), answered(code))
		}
	}
	wantComes(t, brought(t, with(postLine, "X: 1")), answered(501))
	wantComes(t, brought(t, with(getLine, "Content-Length: 1")), answered(400))
}

// 18.1: none of what stands behind the head is sent on, or wanted.
func TestSendsNothingBehind(t *testing.T) {
	for _, more := range []string{"body", "X: 2\r\n\r\n", with("GET http://other/ HTTP/1.1", "Y: 3"), "\r\nZ: 4\r\n\r\n"} {
		c := proxy.New()
		wantAdd(t, c, with(getLine, "X: 1")+more, len(with(getLine, "X: 1")))
		wantAdd(t, c, more, 0)
		wantStands(t, c, fetches(asked(getLine, "X: 1"), sent("/x", "a.b", "X: 1")))
		if strings.Contains(string(c.Sends()), more) {
			t.Errorf("%q is sent on", more)
		}
	}
}
