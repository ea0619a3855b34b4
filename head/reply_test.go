package head_test

import (
	"strconv"
	"testing"

	"sallyport/api"
)

// wantReplyLine wants a reply's line to be wrong, with fields behind it that are right, wrong, or not there.
func wantReplyLine(t *testing.T, line string) {
	t.Helper()
	for _, fields := range []string{"", "A: b\r\n", "x\r\n", ": \r\n", "a: \x00\r\n"} {
		wantRefused(t, "Reply", line+"\r\n"+fields+"\r\n", 0, api.ErrLine)
		wantRefused(t, "Reply", line+"\r\n"+fields+"\r\nmore", 0, api.ErrLine)
	}
}

// 8.1: ordinary replies.
func TestReplies(t *testing.T) {
	wantReply(t, "HTTP/1.1 200 OK\r\n\r\n", api.Reply{Status: 200, Reason: "OK"})
	wantReply(t, "HTTP/1.0 404 Not Found\r\nA: 1\r\na: 2\r\n\r\n", api.Reply{Status: 404, Reason: "Not Found", Fields: []api.Field{{Name: "A", Value: "1"}, {Name: "a", Value: "2"}}})
	wantReply(t, "HTTP/1.1 204 \r\nx:y\r\n\r\n", api.Reply{Status: 204, Fields: []api.Field{{Name: "x", Value: "y"}}})
}

// 8.1: a reply's line has a version, a code and, behind a second blank, a reason.
func TestReplyParts(t *testing.T) {
	for _, line := range []string{"HTTP/1.1", "HTTP/1.1 ", "HTTP/1.1 200", "200 OK", " ", "  ", " HTTP/1.1 200 OK", "HTTP/1.1  200 OK", " 200 OK", "HTTP/1.1  OK", "HTTP/1.1 OK 200", "HTTP/1.1\t200\tOK", "HTTP/1.1 200\tOK", "GET http://a.b/x HTTP/1.1", "x"} {
		wantReplyLine(t, line)
	}
}

// 8.1: two versions are read, letter by letter.
func TestReplyVersions(t *testing.T) {
	for _, version := range []string{"HTTP/1.0", "HTTP/1.1"} {
		wantReply(t, version+" 200 OK\r\n\r\n", api.Reply{Status: 200, Reason: "OK"})
	}
	for _, version := range append(wrongVersions, "") {
		wantReplyLine(t, version+" 200 OK")
	}
}

// 8.1: codes have just three digits, and are from 100 to 599.
func TestCodes(t *testing.T) {
	for code := range 1100 {
		line := "HTTP/1.1 " + strconv.Itoa(code) + " OK"
		if 100 <= code && code <= 599 {
			wantReply(t, line+"\r\n\r\n", api.Reply{Status: code, Reason: "OK"})
			continue
		}
		wantReplyLine(t, line)
	}
	for _, code := range []string{"", "0", "20", "099", "000", "600", "999", "2000", "0200", "1000", "+20", "-20", "+200", "-200", "2a0", "a00", "20a", "0x1", "1e2", "2.0", "2_0", "20\t", "\t20", "20\x00", "\xb2\xb0\xb0"} {
		wantReplyLine(t, "HTTP/1.1 "+code+" OK")
	}
	for c := range 256 {
		for _, code := range []string{one(c) + "00", "1" + one(c) + "0", "10" + one(c)} {
			if c < '0' || c > '9' {
				wantReplyLine(t, "HTTP/1.1 "+code+" OK")
			}
		}
	}
}

// 8.1: reasons have up to 256 bytes, and blanks wherever they stand.
func TestReasons(t *testing.T) {
	for _, reason := range []string{"", "O", " ", "  ", " OK", "OK ", "a  b", "!~", "200", "HTTP/1.1 200 OK", many(255, 'r'), many(256, 'r'), many(256, ' ')} {
		wantReply(t, "HTTP/1.1 200 "+reason+"\r\n\r\n", api.Reply{Status: 200, Reason: reason})
	}
	for _, n := range []int{257, 258, 4000} {
		wantReplyLine(t, "HTTP/1.1 200 "+many(n, 'r'))
		wantReplyLine(t, "HTTP/1.1 200 "+many(n, ' '))
	}
}

// 8.1: each byte of a reason is from 32 to 126: no tab, and none above.
func TestReasonBytes(t *testing.T) {
	for c := range 256 {
		for _, reason := range []string{one(c), one(c) + "x", "x" + one(c) + "y", "x" + one(c)} {
			if 32 <= c && c <= 126 {
				wantReply(t, "HTTP/1.1 200 "+reason+"\r\n\r\n", api.Reply{Status: 200, Reason: reason})
				continue
			}
			wantReplyLine(t, "HTTP/1.1 200 "+reason)
		}
	}
}
