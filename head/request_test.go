package head_test

import (
	"strings"
	"testing"

	"sallyport/api"
	"sallyport/head"
)

// wantLine wants a request's line to be wrong, with fields behind it that are right, wrong, or not there.
func wantLine(t *testing.T, line string, place int, number api.Errno) {
	t.Helper()
	for _, fields := range []string{"", "Host: a.b\r\n", "x\r\n", ": \r\n", "a: \x00\r\n", "\r\r\n"} {
		wantRefused(t, "Request", line+"\r\n"+fields+"\r\n", place, number)
		wantRefused(t, "Request", line+"\r\n"+fields+"\r\nmore", place, number)
	}
}

// wantTo wants a request's line's destination to be wrong.
func wantTo(t *testing.T, line string, place int, inner string) {
	t.Helper()
	for _, fields := range []string{"", "Host: a.b\r\n", "x\r\n", ": \r\n"} {
		wantHostFault(t, line+"\r\n"+fields+"\r\nmore", place, inner)
	}
}

// wantTarget wants a target of GET to be read.
func wantTarget(t *testing.T, target string, dest api.Dest, path string) {
	t.Helper()
	wantRequest(t, "GET "+target+" HTTP/1.1\r\n\r\n", api.Request{Method: "GET", Dest: dest, Path: path})
}

// 8.1: example 1 of the chapter.
func TestRequestExamples(t *testing.T) {
	b := "GET http://a.b/x HTTP/1.1\r\nHost: a.b\r\n\r\n"
	want := api.Request{Method: "GET", Dest: named("a.b", 80), Path: "/x", Fields: []api.Field{{Name: "Host", Value: "a.b"}}}
	wantRequest(t, b, want)
	if _, size, _ := head.Request([]byte(b)); size != 40 {
		t.Errorf("Request tells %d bytes, want 40", size)
	}
	wantRequest(t, "CONNECT a.b:443 HTTP/1.1\r\n\r\n", api.Request{Method: "CONNECT", Dest: named("a.b", 443)})
}

// 8.1: example 2 of the chapter, and the texts of its faults.
func TestRefusedExamples(t *testing.T) {
	wantRefused(t, "Request", "GET /x HTTP/1.1\r\n\r\n", 4, api.ErrTarget)
	wantHostFault(t, "GET http://-/ HTTP/1.1\r\n\r\n", 11, "host 0: error 61")
	for b, want := range map[string]string{"GET /x HTTP/1.1\r\n\r\n": "head 4: error 82", "GET http://-/ HTTP/1.1\r\n\r\n": "head 11: host 0: error 61"} {
		if _, _, err := head.Request([]byte(b)); err == nil || err.Error() != want {
			t.Errorf("Request of %s: %v, want %s", short(b), err, want)
		}
	}
}

// 8.1: an empty line at the very beginning is a head, and its first line is none.
func TestEmptyFirstLine(t *testing.T) {
	for _, what := range []string{"Request", "Reply"} {
		for _, behind := range []string{"", get + "\r\n", ok + "\r\n", "\r\n"} {
			wantRefused(t, what, "\r\n"+behind, 0, api.ErrLine)
		}
	}
	wantEnd(t, "\r\n"+get+"\r\n", 2)
}

// 8.1: a request's line has just three parts, with just two blanks.
func TestRequestParts(t *testing.T) {
	for _, line := range []string{
		"GET", "GET ", " ", "HTTP/1.1", " HTTP/1.1", "GET HTTP/1.1", "GET http://a.b/", "http://a.b/ HTTP/1.1",
		"GET http://a.b/ x HTTP/1.1", "GET http://a.b/ HTTP/1.1 x", "GET http://a.b/ HTTP/1.1 ", " GET http://a.b/ HTTP/1.1",
		"GET  http://a.b/ HTTP/1.1", "GET http://a.b/  HTTP/1.1", "GET a b c d HTTP/1.1", "   ", "    ", "G@T a b HTTP/1.1",
	} {
		wantLine(t, line, 0, api.ErrLine)
	}
	wantLine(t, "GET\thttp://a.b/\tHTTP/1.1", 0, api.ErrLine)
	wantLine(t, "GET\thttp://a.b/ HTTP/1.1", 0, api.ErrLine)
}

// 8.1: empty parts are parts: what is wrong with them is the method's or the target's fault, or the version's.
func TestEmptyParts(t *testing.T) {
	wantLine(t, " http://a.b/ HTTP/1.1", 0, api.ErrToken)
	wantLine(t, "  HTTP/1.1", 0, api.ErrToken)
	wantLine(t, "GET  HTTP/1.1", 4, api.ErrTarget)
	wantLine(t, "GET http://a.b/ ", 0, api.ErrLine)
	wantLine(t, "  ", 0, api.ErrLine)
	wantTo(t, "CONNECT  HTTP/1.1", 8, "host 0: error 62")
}

// 8.1: two versions are read, letter by letter.
func TestRequestVersions(t *testing.T) {
	for _, version := range []string{"HTTP/1.0", "HTTP/1.1"} {
		wantRequest(t, "GET http://a.b/x "+version+"\r\n\r\n", withFields("Request").request)
		wantRequest(t, "CONNECT a.b:1 "+version+"\r\n\r\n", api.Request{Method: "CONNECT", Dest: named("a.b", 1)})
	}
	for _, version := range wrongVersions {
		wantLine(t, "GET http://a.b/x "+version, 0, api.ErrLine)
		wantLine(t, "CONNECT a.b:1 "+version, 0, api.ErrLine)
	}
}

var wrongVersions = []string{"HTTP/1.2", "HTTP/2.0", "HTTP/0.9", "http/1.1", "Http/1.1", "HTTP/1.", "HTTP/1.11", "HTTP/1.1\t", "TTP/1.1", "HTTP/1", "HTTP/1,1", "HTTPS/1.1", "\x00HTTP/1.1", "HTTP/1.1\x00", "HTTP/01.1"}

// 8.1: methods are tokens of 1 to 64 bytes, in any letters, and stand as they were sent.
func TestMethods(t *testing.T) {
	for _, method := range []string{"G", "get", "Get", "POST", "DELETE", "x-1", "!#$%&'*+-.^_`|~", "CONNECTX", "CONNEC", "connect", "Connect", many(64, 'M')} {
		wantRequest(t, method+" http://a.b/x HTTP/1.1\r\n\r\n", api.Request{Method: method, Dest: named("a.b", 80), Path: "/x"})
	}
	for _, method := range []string{"", many(65, 'M'), many(200, 'M'), "G@T", "GET:", "GET/", "(", "a\tb", "\x00", "GET\x00", "\xff", "\xc3\xa9"} {
		wantLine(t, method+" http://a.b/x HTTP/1.1", 0, api.ErrToken)
		wantLine(t, method+" /x HTTP/1.1", 0, api.ErrToken)
		wantLine(t, method+" http://-/ HTTP/1.1", 0, api.ErrToken)
		wantLine(t, method+" /x HTTP/1.2", 0, api.ErrLine)
	}
}

// 8.1: each byte as a method.
func TestMethodBytes(t *testing.T) {
	for c := range 256 {
		line := one(c) + " http://a.b/x HTTP/1.1"
		switch {
		case strings.Contains(tokenBytes, one(c)):
			wantRequest(t, line+"\r\n\r\n", api.Request{Method: one(c), Dest: named("a.b", 80), Path: "/x"})
		case c == ' ' || c == '\r' || c == '\n':
			wantLine(t, line, 0, api.ErrLine)
		default:
			wantLine(t, line, 0, api.ErrToken)
		}
	}
}

// 8.1: a CR or LF that stands alone makes a first line none, wherever it stands.
func TestLoneEndsInTheFirstLine(t *testing.T) {
	for what, line := range map[string]string{"Request": "GET http://a.b/x HTTP/1.1", "Reply": "HTTP/1.1 200 OK"} {
		for place := range len(line) + 1 {
			for _, lone := range []string{"\r", "\n", "\n\r", "\r\r", "\n\n"} {
				b := line[:place] + lone + line[place:] + "\r\n\r\n"
				wantRefused(t, what, b, 0, api.ErrLine)
				wantRefused(t, what, b+"more", 0, api.ErrLine)
			}
		}
	}
	wantLine(t, "G@T\r http://a.b/x HTTP/1.1", 0, api.ErrLine)
	wantLine(t, "CONNECT a.b\n:1 HTTP/1.1", 0, api.ErrLine)
}

// 8.1: the target of CONNECT is a destination, and nothing else.
func TestConnect(t *testing.T) {
	for target, dest := range map[string]api.Dest{"a:1": named("a", 1), "Example.COM:65535": named("example.com", 65535), "1.2.3.4:443": at(1, 2, 3, 4, 443), "0.0.0.0:80": at(0, 0, 0, 0, 80)} {
		wantRequest(t, "CONNECT "+target+" HTTP/1.1\r\nA: b\r\n\r\n", api.Request{Method: "CONNECT", Dest: dest, Fields: []api.Field{{Name: "A", Value: "b"}}})
	}
	for target, inner := range map[string]string{
		"a.b": "host 3: error 62", "a.b:": "host 4: host 0: error 62", "a.b:0": "host 4: host 0: error 62", "a.b:65536": "host 4: host 0: error 62",
		"a.b:080": "host 4: host 0: error 62", "a.b:1/": "host 4: host 0: error 62", ":80": "host 0: error 63", "-:80": "host 0: error 61",
		"a..b:80": "host 2: error 61", "1.2.3.256:80": "host 6: error 60", "1.2.3:80": "host 5: error 63", "http://a.b/": "host 5: host 0: error 62",
		"http://a.b:80": "host 0: error 61", "/": "host 1: error 62", "a.1:80": "host 2: error 63", "a\tb:80": "host 0: error 61",
		"a.b:80\x00": "host 4: host 0: error 62", many(254, 'a') + ":80": "host 253: error 3", many(260, 'a'): "host 259: error 3", many(4000, ':'): "host 259: error 3",
	} {
		wantTo(t, "CONNECT "+target+" HTTP/1.1", 8, inner)
	}
}

// 8.1: connect in small letters is another method: its target is no destination.
func TestSmallConnect(t *testing.T) {
	wantLine(t, "connect a.b:443 HTTP/1.1", 8, api.ErrTarget)
	wantLine(t, "Connect a.b:443 HTTP/1.1", 8, api.ErrTarget)
	wantTarget(t, "http://connect/", named("connect", 80), "/")
}

// 8.1: targets of other methods than CONNECT.
func TestTargets(t *testing.T) {
	wantTarget(t, "http://a.b", named("a.b", 80), "/")
	wantTarget(t, "http://a.b/", named("a.b", 80), "/")
	wantTarget(t, "http://a.b:81", named("a.b", 81), "/")
	wantTarget(t, "http://a.b:81/", named("a.b", 81), "/")
	wantTarget(t, "http://a.b:80/x", named("a.b", 80), "/x")
	wantTarget(t, "http://A.B:65535/X", named("a.b", 65535), "/X")
	wantTarget(t, "http://1.2.3.4", at(1, 2, 3, 4, 80), "/")
	wantTarget(t, "http://1.2.3.4:1/1.2", at(1, 2, 3, 4, 1), "/1.2")
	wantTarget(t, "http://a//b", named("a", 80), "//b")
	wantTarget(t, "http://a//", named("a", 80), "//")
	wantTarget(t, "http://a/b:c@d?e=f&g#h", named("a", 80), "/b:c@d?e=f&g#h")
	wantTarget(t, "http://a:1/http://b:2/", named("a", 1), "/http://b:2/")
	wantTarget(t, "http://a/!~", named("a", 80), "/!~")
}

// 8.1: what does not begin by http://, in small letters, is no target.
func TestWrongTargets(t *testing.T) {
	for _, target := range []string{"", "/", "/x", "*", "a.b", "a.b:80", "HTTP://a.b/", "Http://a.b/", "https://a.b/", "http:/a.b/", "http:", "http:/", "http", "ttp://a.b/", "xhttp://a.b/", "//a.b/", "\x00", "http:\\\\a.b", "/http://a.b/"} {
		wantLine(t, "GET "+target+" HTTP/1.1", 4, api.ErrTarget)
		wantLine(t, "OPTIONS "+target+" HTTP/1.0", 8, api.ErrTarget)
	}
}

// 8.1: a target's host and port are refused by host's fault, at the place where the destination begins.
func TestWrongHosts(t *testing.T) {
	for to, inner := range map[string]string{
		"": "host 0: error 63", ":80": "host 0: error 63", ":": "host 0: error 63", "a.b:": "host 4: host 0: error 62", "a.b:0": "host 4: host 0: error 62",
		"a.b:x": "host 4: host 0: error 62", "a.b:65536": "host 4: host 0: error 62", "a.b:080": "host 4: host 0: error 62", "a:b:80": "host 0: error 61",
		"-": "host 0: error 61", "a..b": "host 2: error 61", "a.b.": "host 4: error 61", "1.2.3.256": "host 6: error 60", "1.2.3": "host 5: error 63",
		"1.2.3.4.5": "host 8: error 63", "a.1": "host 2: error 63", "u@a": "host 0: error 61", "a?b": "host 0: error 61", "[::1]": "host 0: error 61",
		"a\tb": "host 0: error 61", "a.\x00": "host 2: error 61", "a\x7f": "host 0: error 61", "\xff": "host 0: error 61",
		many(254, 'a'): "host 253: error 3", many(4000, 'a'): "host 253: error 3", many(254, 'a') + ":80": "host 253: error 3", many(4000, 'a') + ":80": "host 259: error 3",
		many(254, '1'): "host 253: error 3",
	} {
		for _, path := range []string{"", "/", "/x", "/" + many(2047, 'x')} {
			wantTo(t, "GET http://"+to+path+" HTTP/1.1", 11, inner)
			wantTo(t, "OPTIONS http://"+to+path+" HTTP/1.1", 15, inner)
		}
	}
}

// 8.1: a path has at most 2048 bytes in all, its / among them.
func TestPathLengths(t *testing.T) {
	for _, n := range []int{1, 2, 2047, 2048} {
		path := "/" + many(n-1, 'p')
		wantTarget(t, "http://a.b"+path, named("a.b", 80), path)
		wantTarget(t, "http://a.b:8080"+path, named("a.b", 8080), path)
	}
	for _, n := range []int{2049, 2050, 4097} {
		wantLine(t, "GET http://a.b/"+many(n-1, 'p')+" HTTP/1.1", 4, api.ErrTarget)
	}
}

// 8.1: each byte of a path is from 33 to 126.
func TestPathBytes(t *testing.T) {
	for c := range 256 {
		for _, path := range []string{"/" + one(c), "/" + one(c) + "y", "/x" + one(c) + "y"} {
			line := "GET http://a.b" + path + " HTTP/1.1"
			switch {
			case 33 <= c && c <= 126:
				wantTarget(t, "http://a.b"+path, named("a.b", 80), path)
			case c == ' ' || c == '\r' || c == '\n':
				wantLine(t, line, 0, api.ErrLine)
			default:
				wantLine(t, line, 4, api.ErrTarget)
			}
		}
	}
}

// 8.1, rule 1: a path that is wrong is told ahead of a host that is, as the chapter names ErrTarget first, at a place that is ahead of the other one.
func TestTargetAheadOfHost(t *testing.T) {
	wantLine(t, "GET http://-/\x00 HTTP/1.1", 4, api.ErrTarget)
	wantLine(t, "GET http:///"+many(2048, 'x')+" HTTP/1.1", 4, api.ErrTarget)
	wantLine(t, "GET http://a:0/\xff HTTP/1.1", 4, api.ErrTarget)
}

// 8.1: of a first line the parts and the version are told ahead of the method, that ahead of the target, and all of it ahead of the fields.
func TestOrderOfAFirstLine(t *testing.T) {
	wantLine(t, "G@T /x HTTP/1.3", 0, api.ErrLine)
	wantLine(t, "G@T /x y HTTP/1.1", 0, api.ErrLine)
	wantLine(t, "G@T /x HTTP/1.1", 0, api.ErrToken)
	wantLine(t, "G@T http://-/ HTTP/1.1", 0, api.ErrToken)
	wantLine(t, "GET /x HTTP/1.1", 4, api.ErrTarget)
	wantTo(t, "GET http://-/ HTTP/1.1", 11, "host 0: error 61")
}
