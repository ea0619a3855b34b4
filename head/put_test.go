package head_test

import (
	"reflect"
	"slices"
	"strings"
	"testing"

	"sallyport/api"
	"sallyport/head"
)

// wantPut wants these bytes of a request, and that they are read as the request was.
func wantPut(t *testing.T, r api.Request, want string) {
	t.Helper()
	b, e := head.PutRequest(r)
	if e != api.OK || string(b) != want {
		t.Errorf("PutRequest of %+v: %s, %v, want %s", r, short(string(b)), e, short(want))
	}
	wantRequest(t, want, r)
}

func wantPutReply(t *testing.T, r api.Reply, want string) {
	t.Helper()
	b, e := head.PutReply(r)
	if e != api.OK || string(b) != want {
		t.Errorf("PutReply of %+v: %s, %v, want %s", r, short(string(b)), e, short(want))
	}
	wantReply(t, want, r)
}

// wantNoPut wants a request not to be written, and no bytes.
func wantNoPut(t *testing.T, r api.Request, want api.Errno) {
	t.Helper()
	if b, e := head.PutRequest(r); e != want || len(b) != 0 {
		t.Errorf("PutRequest of %+v: %s, %v, want %v", r, short(string(b)), e, want)
	}
}

func wantNoPutReply(t *testing.T, r api.Reply, want api.Errno) {
	t.Helper()
	if b, e := head.PutReply(r); e != want || len(b) != 0 {
		t.Errorf("PutReply of %+v: %s, %v, want %v", r, short(string(b)), e, want)
	}
}

// plain is a request that is right.
func plain() api.Request {
	return api.Request{Method: "GET", Dest: named("a.b", 80), Path: "/x"}
}

// wantBoth wants a request and a reply with these fields to be written, or to be refused by this number.
func wantBoth(t *testing.T, fields []api.Field, want api.Errno) {
	t.Helper()
	r, p := plain(), api.Reply{Status: 200, Reason: "OK"}
	r.Fields, p.Fields = fields, fields
	if want != api.OK {
		wantNoPut(t, r, want)
		wantNoPutReply(t, p, want)
		return
	}
	var lines strings.Builder
	for _, f := range fields {
		lines.WriteString(f.Name + ": " + f.Value + "\r\n")
	}
	wantPut(t, r, "GET http://a.b:80/x HTTP/1.1\r\n"+lines.String()+"\r\n")
	wantPutReply(t, p, "HTTP/1.1 200 OK\r\n"+lines.String()+"\r\n")
}

// 8.2, 8.4: requests are written with their port and path, CONNECT with its destination alone.
func TestPutRequest(t *testing.T) {
	wantPut(t, plain(), "GET http://a.b:80/x HTTP/1.1\r\n\r\n")
	wantPut(t, api.Request{Method: "POST", Dest: at(1, 2, 3, 4, 8080), Path: "/", Fields: []api.Field{{Name: "Host", Value: "1.2.3.4"}, {Name: "a", Value: ""}}}, "POST http://1.2.3.4:8080/ HTTP/1.1\r\nHost: 1.2.3.4\r\na: \r\n\r\n")
	wantPut(t, api.Request{Method: "CONNECT", Dest: named("a.b", 443)}, "CONNECT a.b:443 HTTP/1.1\r\n\r\n")
	wantPut(t, api.Request{Method: "CONNECT", Dest: at(0, 0, 0, 0, 1), Fields: []api.Field{{Name: "A", Value: "b c"}}}, "CONNECT 0.0.0.0:1 HTTP/1.1\r\nA: b c\r\n\r\n")
	wantPut(t, api.Request{Method: "connect", Dest: named("a", 65535), Path: "/"}, "connect http://a:65535/ HTTP/1.1\r\n\r\n")
}

// 8.2, 8.4: replies are written with their reason, though it be empty.
func TestPutReply(t *testing.T) {
	wantPutReply(t, api.Reply{Status: 200, Reason: "OK"}, "HTTP/1.1 200 OK\r\n\r\n")
	wantPutReply(t, api.Reply{Status: 404, Reason: "Not Found", Fields: []api.Field{{Name: "X", Value: "y"}, {Name: "x", Value: ""}}}, "HTTP/1.1 404 Not Found\r\nX: y\r\nx: \r\n\r\n")
	wantPutReply(t, api.Reply{Status: 204}, "HTTP/1.1 204 \r\n\r\n")
	wantPutReply(t, api.Reply{Status: 100, Reason: "  a  "}, "HTTP/1.1 100   a  \r\n\r\n")
}

// 8.2: methods that are no tokens are not written.
func TestPutMethods(t *testing.T) {
	for _, method := range []string{"G", "get", tokenBytes[:64], many(64, 'M')} {
		r := plain()
		r.Method = method
		wantPut(t, r, method+" http://a.b:80/x HTTP/1.1\r\n\r\n")
	}
	for _, method := range []string{"", many(65, 'M'), "G T", "GET ", " GET", "GET\r\n", "G@T", "\x00", "é"} {
		r := plain()
		r.Method = method
		wantNoPut(t, r, api.ErrArg)
		r.Path = ""
		wantNoPut(t, r, api.ErrArg)
	}
	for c := range 256 {
		r := plain()
		r.Method = "G" + one(c)
		if strings.Contains(tokenBytes, one(c)) {
			wantPut(t, r, r.Method+" http://a.b:80/x HTTP/1.1\r\n\r\n")
			continue
		}
		wantNoPut(t, r, api.ErrArg)
	}
}

// 8.2: destinations that are not right are not written.
func TestPutDestinations(t *testing.T) {
	both := api.Dest{Host: api.Host{Addr: api.Addr{A: 1}, Name: "a"}, Port: 80}
	for _, dest := range []api.Dest{
		{}, at(1, 2, 3, 4, 0), at(1, 2, 3, 4, 65536), at(1, 2, 3, 4, -1), named("a", 0), named("a", 65536), named("a", -80), both,
		named("A.b", 80), named("a.", 80), named("-", 80), named("a..b", 80), named("1.2.3.4", 80), named("a\r\nb", 80), named("a b", 80), named("a/b", 80),
		named("a:80", 80), named(many(254, 'a'), 80), named(many(64, 'a'), 80),
	} {
		r := plain()
		r.Dest = dest
		wantNoPut(t, r, api.ErrArg)
		wantNoPut(t, api.Request{Method: "CONNECT", Dest: dest}, api.ErrArg)
	}
	for _, dest := range []api.Dest{at(0, 0, 0, 0, 1), at(255, 255, 255, 255, 65535)} {
		r := plain()
		r.Dest = dest
		if _, e := head.PutRequest(r); e != api.OK {
			t.Errorf("PutRequest to %+v: %v", dest, e)
		}
	}
}

// 8.2: a path begins by /, and has up to 2048 bytes from 33 to 126; without one only CONNECT is written, and that with none alone.
func TestPutPaths(t *testing.T) {
	for _, path := range []string{"/", "//", "/x?y#z", "/!~", "/" + many(2046, 'p'), "/" + many(2047, 'p')} {
		r := plain()
		r.Path = path
		wantPut(t, r, "GET http://a.b:80"+path+" HTTP/1.1\r\n\r\n")
		wantNoPut(t, api.Request{Method: "CONNECT", Dest: named("a.b", 80), Path: path}, api.ErrArg)
	}
	for _, path := range []string{"", "x", "x/", " /", "*", "http://a.b/", "?", "/ ", "/a b", "/\t", "/\x00", "/\r\n", "/\x7f", "/é", "/" + many(2048, 'p'), many(2048, 'p')} {
		r := plain()
		r.Path = path
		wantNoPut(t, r, api.ErrArg)
		if path != "" {
			wantNoPut(t, api.Request{Method: "CONNECT", Dest: named("a.b", 80), Path: path}, api.ErrArg)
		}
	}
	for c := range 256 {
		r := plain()
		r.Path = "/x" + one(c) + "y"
		if 33 <= c && c <= 126 {
			wantPut(t, r, "GET http://a.b:80"+r.Path+" HTTP/1.1\r\n\r\n")
			continue
		}
		wantNoPut(t, r, api.ErrArg)
	}
}

// 8.2: codes are from 100 to 599.
func TestPutCodes(t *testing.T) {
	for _, code := range []int{100, 101, 200, 599} {
		r := api.Reply{Status: code, Reason: "OK"}
		b, e := head.PutReply(r)
		if e != api.OK {
			t.Errorf("PutReply of %d: %v", code, e)
		}
		wantReply(t, string(b), r)
	}
	for _, code := range []int{-1 << 63, -200, -1, 0, 1, 20, 99, 600, 601, 999, 1000, 2000, 1<<63 - 1} {
		wantNoPutReply(t, api.Reply{Status: code, Reason: "OK"}, api.ErrArg)
	}
}

// 8.2: reasons have up to 256 bytes from 32 to 126.
func TestPutReasons(t *testing.T) {
	for _, reason := range []string{"", " ", "O", "a b", many(255, 'r'), many(256, 'r'), many(256, ' ')} {
		wantPutReply(t, api.Reply{Status: 200, Reason: reason}, "HTTP/1.1 200 "+reason+"\r\n\r\n")
	}
	for _, n := range []int{257, 258, 9000} {
		wantNoPutReply(t, api.Reply{Status: 200, Reason: many(n, 'r')}, api.ErrArg)
	}
	for c := range 256 {
		for _, reason := range []string{one(c), "x" + one(c) + "y"} {
			r := api.Reply{Status: 200, Reason: reason}
			if 32 <= c && c <= 126 {
				wantPutReply(t, r, "HTTP/1.1 200 "+reason+"\r\n\r\n")
				continue
			}
			wantNoPutReply(t, r, api.ErrArg)
		}
	}
}

// 8.2, 8.6: names that are no tokens and values that are none are not written, wherever in the list they stand.
func TestPutFields(t *testing.T) {
	right := api.Field{Name: "A", Value: "b"}
	for _, field := range []api.Field{{Name: "x"}, {Name: many(64, 'n'), Value: "v w\tx"}, {Name: tokenBytes[:64], Value: ":"}, {Name: "x", Value: many(4096, 'v')}} {
		wantBoth(t, []api.Field{field}, api.OK)
		wantBoth(t, []api.Field{right, field, right}, api.OK)
	}
	for _, field := range []api.Field{
		{}, {Value: "v"}, {Name: " "}, {Name: "a b"}, {Name: "a:"}, {Name: ":"}, {Name: "a\r\n"}, {Name: "a\x00"}, {Name: many(65, 'n')},
		{Name: "a", Value: " "}, {Name: "a", Value: " b"}, {Name: "a", Value: "b "}, {Name: "a", Value: "\tb"}, {Name: "a", Value: "b\t"}, {Name: "a", Value: "b\r\nc: d"},
		{Name: "a", Value: "\r"}, {Name: "a", Value: "\n"}, {Name: "a", Value: "b\x00c"}, {Name: "a", Value: "é"}, {Name: "a", Value: many(4097, 'v')},
	} {
		wantBoth(t, []api.Field{field}, api.ErrArg)
		wantBoth(t, []api.Field{right, field}, api.ErrArg)
		wantBoth(t, []api.Field{field, right}, api.ErrArg)
	}
}

// 8.2, 8.6: each byte in a name and in a value.
func TestPutFieldBytes(t *testing.T) {
	for c := range 256 {
		name := api.OK
		if !strings.Contains(tokenBytes, one(c)) {
			name = api.ErrArg
		}
		wantBoth(t, []api.Field{{Name: "n" + one(c), Value: "v"}}, name)
		within, end := api.OK, api.OK
		if c != ' ' && c != '\t' && (c < 33 || c > 126) {
			within = api.ErrArg
		}
		if c < 33 || c > 126 {
			end = api.ErrArg
		}
		wantBoth(t, []api.Field{{Name: "n", Value: "v" + one(c) + "w"}}, within)
		wantBoth(t, []api.Field{{Name: "n", Value: "v" + one(c)}}, end)
		wantBoth(t, []api.Field{{Name: "n", Value: one(c) + "w"}}, end)
	}
}

// 8.2: at most MaxFields fields are written; one that is wrong is told first, wherever it stands.
func TestPutFieldCounts(t *testing.T) {
	for _, n := range []int{0, 1, api.MaxFields - 1, api.MaxFields} {
		fields, _ := someFields(n)
		wantBoth(t, fields, api.OK)
	}
	wrong := api.Field{Name: "a", Value: " "}
	for _, n := range []int{api.MaxFields + 1, 2 * api.MaxFields, 100000} {
		fields, _ := someFields(n)
		wantBoth(t, fields, api.ErrLong)
		fields[n-1] = wrong
		wantBoth(t, fields, api.ErrArg)
		fields, _ = someFields(n)
		fields[0] = wrong
		wantBoth(t, fields, api.ErrArg)
		r := plain()
		r.Fields, _ = someFields(n)
		r.Path = "x"
		wantNoPut(t, r, api.ErrArg)
	}
}

// 8.2: what would have more than MaxHead bytes is not written; a part that is wrong is told first.
func TestPutMaxHead(t *testing.T) {
	for _, first := range []string{"GET http://a.b:80/x HTTP/1.1\r\n", "HTTP/1.1 200 OK\r\n"} {
		for n := api.MaxHead - 2; n <= api.MaxHead+2; n++ {
			b, fields := sized(first, n)
			r, p := plain(), api.Reply{Status: 200, Reason: "OK"}
			r.Fields, p.Fields = fields, fields
			switch isReply := strings.HasPrefix(first, "HTTP"); {
			case n > api.MaxHead && isReply:
				wantNoPutReply(t, p, api.ErrLong)
				p.Fields = append(slices.Clone(fields), api.Field{})
				wantNoPutReply(t, p, api.ErrArg)
				p = api.Reply{Status: 99, Fields: fields}
				wantNoPutReply(t, p, api.ErrArg)
			case n > api.MaxHead:
				wantNoPut(t, r, api.ErrLong)
				r.Dest.Port = 0
				wantNoPut(t, r, api.ErrArg)
			case isReply:
				wantPutReply(t, p, b)
			default:
				wantPut(t, r, b)
			}
		}
	}
	longest := slices.Repeat([]api.Field{{Name: many(64, 'n'), Value: many(4096, 'v')}}, api.MaxFields)
	wantBoth(t, longest, api.ErrLong)
	wantBoth(t, slices.Repeat(longest, 1000), api.ErrLong)
}

// Rule 4: fields that are handed in are not changed, and what is told is the caller's own.
func TestPutLeavesFields(t *testing.T) {
	fields := make([]api.Field, 2, 8)
	fields[0], fields[1] = api.Field{Name: "A", Value: "b"}, api.Field{Name: "c", Value: ""}
	r, p := plain(), api.Reply{Status: 200, Reason: "OK"}
	r.Fields, p.Fields = fields, fields
	first, _ := head.PutRequest(r)
	second, _ := head.PutReply(p)
	if want := []api.Field{{Name: "A", Value: "b"}, {Name: "c"}, {}, {}, {}, {}, {}, {}}; !reflect.DeepEqual(fields[:8], want) {
		t.Errorf("the fields are %v behind being written, want %v", fields[:8], want)
	}
	fields[0] = api.Field{Name: "Z", Value: "z"}
	if string(first) != "GET http://a.b:80/x HTTP/1.1\r\nA: b\r\nc: \r\n\r\n" || string(second) != "HTTP/1.1 200 OK\r\nA: b\r\nc: \r\n\r\n" {
		t.Errorf("%q, %q behind their fields being others", first, second)
	}
	for _, put := range []func() ([]byte, api.Errno){
		func() ([]byte, api.Errno) { return head.PutRequest(r) },
		func() ([]byte, api.Errno) { return head.PutReply(p) },
	} {
		b, _ := put()
		text := string(b)
		clear(b)
		if again, _ := put(); string(again) != text {
			t.Errorf("%q behind its bytes being written over, want %q", again, text)
		}
	}
}
