package head_test

import (
	"bytes"
	"errors"
	"fmt"
	"math/rand"
	"reflect"
	"regexp"
	"slices"
	"strconv"
	"strings"
	"testing"

	"sallyport/api"
	"sallyport/head"
	"sallyport/host"
)

// The chapter's words as patterns; a value's and a path's lengths are asked beside them.
var (
	tokenWord  = regexp.MustCompile("^[A-Za-z0-9!#$%&'*+.^_`|~-]{1,64}$")
	valueWord  = regexp.MustCompile(`^([!-~]([\t -~]*[!-~])?)?$`)
	pathWord   = regexp.MustCompile(`^/[!-~]*$`)
	reasonWord = regexp.MustCompile(`^[ -~]{0,256}$`)
	codeWord   = regexp.MustCompile(`^[1-5][0-9][0-9]$`)
	versions   = []string{"HTTP/1.0", "HTTP/1.1"}
)

// fault is what the model tells of a head that is wrong.
func fault(at int, err error) error {
	return &api.Fault{Layer: "head", At: at, Err: err}
}

// modelEnd goes from one line's end to the next, byte by byte, until a line has none of its own.
func modelEnd(b []byte) (int, error) {
	begin := 0
	for i := 1; i < len(b) && i < api.MaxHead; i++ {
		if b[i-1] != '\r' || b[i] != '\n' {
			continue
		}
		if i-1 == begin {
			return i + 1, nil
		}
		begin = i + 1
	}
	if len(b) < api.MaxHead {
		return 0, fault(len(b), api.ErrShort)
	}
	return 0, fault(api.MaxHead, api.ErrLong)
}

// modelRead is the model of both readers: of a whole head first its line, then its fields, one by one.
func modelRead(what string, b []byte) (said, error) {
	end, err := modelEnd(b)
	if err != nil || what == "End" {
		return said{size: end}, err
	}
	lines := strings.Split(string(b[:end]), "\r\n")
	lines = lines[:len(lines)-2]
	if len(lines) == 0 {
		return said{}, fault(0, api.ErrLine)
	}
	s, wrong := modelReply(lines[0])
	if what == "Request" {
		s, wrong = modelRequest(lines[0])
	}
	if wrong != nil {
		return said{}, wrong
	}
	var fields []api.Field
	at := len(lines[0]) + 2
	for i, line := range lines[1:] {
		field, wrong := modelField(line)
		if i == api.MaxFields {
			wrong = api.ErrLong
		}
		if wrong != api.OK {
			return said{}, fault(at, wrong)
		}
		fields = append(fields, field)
		at += len(line) + 2
	}
	s.size = end
	if what == "Request" {
		s.request.Fields = fields
	} else {
		s.reply.Fields = fields
	}
	return s, nil
}

func modelField(line string) (api.Field, api.Errno) {
	colon := strings.Index(line, ":")
	if colon < 0 || strings.Contains(line, "\r") || strings.Contains(line, "\n") {
		return api.Field{}, api.ErrLine
	}
	name, value := line[:colon], strings.Trim(line[colon+1:], "\t ")
	if !tokenWord.MatchString(name) {
		return api.Field{}, api.ErrToken
	}
	if !valueWord.MatchString(value) || len(value) > 4096 {
		return api.Field{}, api.ErrValue
	}
	return api.Field{Name: name, Value: value}, api.OK
}

func modelRequest(line string) (said, error) {
	if strings.Count(line, " ") != 2 || strings.Contains(line, "\r") || strings.Contains(line, "\n") {
		return said{}, fault(0, api.ErrLine)
	}
	first, last := strings.Index(line, " "), strings.LastIndex(line, " ")
	method, target, version := line[:first], line[first+1:last], line[last+1:]
	switch {
	case !slices.Contains(versions, version):
		return said{}, fault(0, api.ErrLine)
	case !tokenWord.MatchString(method):
		return said{}, fault(0, api.ErrToken)
	case method == "CONNECT":
		dest, err := host.ParseDest(target)
		if err != nil {
			return said{}, fault(8, err)
		}
		return said{request: api.Request{Method: method, Dest: dest}}, nil
	case !strings.HasPrefix(target, "http://"):
		return said{}, fault(first+1, api.ErrTarget)
	}
	to, path := target[7:], "/"
	if slash := strings.Index(to, "/"); slash >= 0 {
		to, path = to[:slash], to[slash:]
	}
	if len(path) > 2048 || !pathWord.MatchString(path) {
		return said{}, fault(first+1, api.ErrTarget)
	}
	dest, err := modelTo(to)
	if err != nil {
		return said{}, fault(first+8, err)
	}
	return said{request: api.Request{Method: method, Dest: dest, Path: path}}, nil
}

func modelTo(to string) (api.Dest, error) {
	if strings.Contains(to, ":") {
		return host.ParseDest(to)
	}
	h, err := host.Parse(to)
	return api.Dest{Host: h, Port: 80}, err
}

func modelReply(line string) (said, error) {
	parts := strings.SplitN(line, " ", 3)
	if len(parts) < 3 || !slices.Contains(versions, parts[0]) || !codeWord.MatchString(parts[1]) || !reasonWord.MatchString(parts[2]) {
		return said{}, fault(0, api.ErrLine)
	}
	code, _ := strconv.Atoi(parts[1])
	return said{reply: api.Reply{Status: code, Reason: parts[2]}}, nil
}

// hold holds a reader against the model, and what is read against itself, written and read once more.
func hold(t *testing.T, what string, b []byte) {
	t.Helper()
	got, err := readers[what](b)
	want, wrong := modelRead(what, b)
	if !same(got, want) || !reflect.DeepEqual(err, wrong) {
		t.Errorf("%s of %s: %+v, %v, want %+v, %v", what, short(string(b)), got, err, want, wrong)
	}
	if err == nil {
		wantNothingHidden(t, b, got)
	}
	if err == nil && what != "End" {
		holdAgain(t, what, got)
	}
}

// holdAgain: what is written may be longer than what was read, by a port and by blanks, and thus too long.
func holdAgain(t *testing.T, what string, s said) {
	t.Helper()
	b, e := head.PutReply(s.reply)
	if what == "Request" {
		b, e = head.PutRequest(s.request)
	}
	if e == api.ErrLong && s.size > api.MaxHead-300 {
		return
	}
	got, err := readers[what](append(slices.Clone(b), "more\r\n\r\n"...))
	s.size = len(b)
	if e != api.OK || err != nil || !same(got, s) {
		t.Errorf("%s: %+v, written as %s, %v, is read as %+v, %v", what, s, short(string(b)), e, got, err)
	}
}

// wantNothingHidden wants no CR, LF or NUL in a name or a value that is read.
func wantNothingHidden(t *testing.T, b []byte, s said) {
	t.Helper()
	for _, f := range append(slices.Clone(s.request.Fields), s.reply.Fields...) {
		if strings.ContainsAny(f.Name+f.Value, "\r\n\x00") {
			t.Errorf("%q is read from %s", f, short(string(b)))
		}
	}
}

// allOf calls use with every row of so many pieces out of a list.
func allOf(pieces []string, n int, text string, use func(b string)) {
	if n == 0 {
		use(text)
		return
	}
	for _, piece := range pieces {
		allOf(pieces, n-1, text+piece, use)
	}
}

// 8.1, 8.5: every short row of bytes of few kinds is read, or refused, as the chapter's words say.
func TestShortRows(t *testing.T) {
	for n := range 8 {
		allOf([]string{"\r", "\n", "a", " ", ":"}, n, "", func(b string) {
			for what := range readers {
				hold(t, what, []byte(b))
			}
		})
	}
}

// 8.1, 8.6: likewise behind a first line that is right.
func TestShortRowsOfFields(t *testing.T) {
	for n := range 6 {
		allOf([]string{"\r", "\n", "a", " ", ":", "\x00"}, n, "", func(b string) {
			both(func(what, first string) {
				hold(t, what, []byte(first+b))
				hold(t, what, []byte(first+b+"\r\n\r\n"))
			})
		})
	}
}

// 8.1: every first line of few pieces is read, or refused, as the chapter's words say.
func TestShortFirstLines(t *testing.T) {
	pieces := []string{"GET", "CONNECT", " ", "http://", "a.b", ":", "80", "/", "\r", "HTTP/1.1", "200", "\x01"}
	for n := range 6 {
		allOf(pieces, n, "", func(line string) {
			hold(t, "Request", []byte(line+"\r\n\r\n"))
			hold(t, "Request", []byte(line+" HTTP/1.1\r\n\r\n"))
			hold(t, "Reply", []byte(line+"\r\n\r\n"))
		})
	}
	for n := range 5 {
		allOf(pieces, n, "", func(rest string) {
			hold(t, "Request", []byte("GET http://"+rest+" HTTP/1.1\r\n\r\n"))
			hold(t, "Request", []byte("CONNECT "+rest+" HTTP/1.0\r\n\r\n"))
			hold(t, "Reply", []byte("HTTP/1.1 200"+rest+"\r\n\r\n"))
		})
	}
}

func oneOf(r *rand.Rand, list ...string) string {
	return list[r.Intn(len(list))]
}

// drawnHead is a head that may well be right, with now and then bytes of it turned into others, cut, or with bytes behind it.
func drawnHead(r *rand.Rand) []byte {
	to := oneOf(r, "a.b", "A.B:8080", "1.2.3.4", "1.2.3.4:1", "a:65535", "a.b:80", "a.b:443", "-", "a:0")
	first := oneOf(r, "HTTP/1.1 ", "HTTP/1.0 ") + oneOf(r, "200 OK", "404 Not Found", "100 ", "599  x", "99 x", "600 x")
	switch r.Intn(4) {
	case 0:
		first = "CONNECT " + to + " HTTP/1.1"
	case 1, 2:
		first = oneOf(r, "GET", "POST", "connect", "x", many(r.Intn(70), 'M')) + " http://" + to + oneOf(r, "", "/", "/x", "/"+many(r.Intn(4000), 'p')) + oneOf(r, " HTTP/1.1", " HTTP/1.0")
	}
	var text strings.Builder
	text.WriteString(first + "\r\n")
	for range r.Intn(r.Intn(75) + 1) {
		name := oneOf(r, "Host", "x", "A-b", "Via", many(1+r.Intn(64), 'n'))
		value := oneOf(r, "", "a.b", "v w", "a: b\tc", many(r.Intn(200), 'v'), many(r.Intn(5), ' '))
		text.WriteString(name + ":" + oneOf(r, "", " ", "\t ") + value + oneOf(r, "", " ", "\t") + "\r\n")
	}
	text.WriteString("\r\n")
	b := []byte(text.String())
	for r.Intn(3) == 0 {
		b[r.Intn(len(b))] = oneOf(r, "\r", "\n", " ", ":", "\x00", "a", "/", "\t", one(r.Intn(256)))[0]
	}
	if r.Intn(6) == 0 {
		b = b[:r.Intn(len(b)+1)]
	}
	if r.Intn(4) == 0 {
		b = append(b, oneOf(r, "\r\n", "more", "a: b\r\n\r\n", many(r.Intn(9000), 'x'))...)
	}
	return b
}

// 8.1, 8.4, 8.6: drawn heads are read, or refused, as the chapter's words say.
func TestModel(t *testing.T) {
	r := rand.New(rand.NewSource(80))
	for range 30000 {
		b := drawnHead(r)
		for what := range readers {
			hold(t, what, b)
		}
	}
}

// 8.5: what is read, or what is wrong, is the same with more bytes behind; only what is too short changes, and it is told of each beginning.
func TestBytesBehind(t *testing.T) {
	r := rand.New(rand.NewSource(81))
	for range 5000 {
		b := drawnHead(r)
		more := append(slices.Clone(b), drawnHead(r)...)
		for what, read := range readers {
			first, err := read(b)
			if errors.Is(err, api.ErrShort) {
				wantShort(t, string(b[:r.Intn(len(b)+1)]))
				continue
			}
			second, again := read(more)
			if !same(first, second) || fmt.Sprint(err) != fmt.Sprint(again) {
				t.Errorf("%s of %s: %+v, %v; of %s: %+v, %v", what, short(string(b)), first, err, short(string(more)), second, again)
			}
		}
	}
}

// drawnRequest is a request that may well be right.
func drawnRequest(r *rand.Rand) api.Request {
	q := api.Request{Method: oneOf(r, "GET", "CONNECT", "x", many(r.Intn(67), 'M'), "a b"), Dest: named(oneOf(r, "a", "a.b", "A", "-", ""), r.Intn(70000)), Path: oneOf(r, "", "/", "/x", "x", "/"+many(r.Intn(2100), 'p'), "/"+one(r.Intn(256)))}
	for range r.Intn(r.Intn(80) + 1) {
		q.Fields = append(q.Fields, api.Field{Name: oneOf(r, "a", "Host", many(1+r.Intn(64), 'n')), Value: oneOf(r, "", "v", many(r.Intn(250), 'v'), "a b")})
	}
	for i := range q.Fields {
		if r.Intn(200) == 0 {
			q.Fields[i] = api.Field{Name: oneOf(r, "", "a", one(r.Intn(256))), Value: oneOf(r, " ", "a\r\nb", one(r.Intn(256)), many(4090+r.Intn(10), 'v'))}
		}
	}
	return q
}

// modelPut is the model of both encoders: the parts, then how much it is.
func modelPut(first string, right bool, fields []api.Field) (string, api.Errno) {
	text := first + "\r\n"
	for _, f := range fields {
		right = right && tokenWord.MatchString(f.Name) && valueWord.MatchString(f.Value) && len(f.Value) <= 4096
		text += f.Name + ": " + f.Value + "\r\n"
	}
	switch text += "\r\n"; {
	case !right:
		return "", api.ErrArg
	case len(fields) > api.MaxFields || len(text) > api.MaxHead:
		return "", api.ErrLong
	}
	return text, api.OK
}

// 8.2, 8.4, 8.6: drawn requests and replies are written, or refused, as the chapter's words say, and read as they were.
func TestModelOfPut(t *testing.T) {
	r := rand.New(rand.NewSource(82))
	for range 15000 {
		q := drawnRequest(r)
		to := host.PrintDest(q.Dest)
		first, right := q.Method+" http://"+to+q.Path+" HTTP/1.1", pathWord.MatchString(q.Path) && len(q.Path) <= 2048
		if q.Method == "CONNECT" {
			first, right = "CONNECT "+to+" HTTP/1.1", q.Path == ""
		}
		want, wrong := modelPut(first, right && to != "" && tokenWord.MatchString(q.Method), q.Fields)
		b, e := head.PutRequest(q)
		wantWritten(t, "Request", b, e, want, wrong, said{request: q})

		p := api.Reply{Status: r.Intn(700), Reason: oneOf(r, "", "OK", "a b", many(r.Intn(300), 'r'), one(r.Intn(256))), Fields: q.Fields}
		want, wrong = modelPut("HTTP/1.1 "+strconv.Itoa(p.Status)+" "+p.Reason, p.Status >= 100 && p.Status <= 599 && reasonWord.MatchString(p.Reason), p.Fields)
		b, e = head.PutReply(p)
		wantWritten(t, "Reply", b, e, want, wrong, said{reply: p})
	}
}

// wantWritten wants what was written to be as the model says, and to be read as it was.
func wantWritten(t *testing.T, what string, b []byte, e api.Errno, want string, wrong api.Errno, s said) {
	t.Helper()
	if string(b) != want || e != wrong {
		t.Errorf("%s of %+v is written as %s, %v, want %s, %v", what, s, short(string(b)), e, short(want), wrong)
	}
	if e != api.OK {
		return
	}
	s.size = len(b)
	got, err := readers[what](append(b, "\r\nmore"...))
	if err != nil || !same(got, s) {
		t.Errorf("%s: %s is read as %+v, %v, want %+v", what, short(string(b)), got, err, s)
	}
}

// P1: every byte at each place of a head that is right ends in an answer as the chapter says.
func TestEveryByte(t *testing.T) {
	for what, right := range map[string]string{"Request": "GET http://a.b:8/x HTTP/1.1\r\nA: b c\r\nd:\r\n\r\n", "Reply": "HTTP/1.1 200 OK\r\nA: b c\r\nd:\r\n\r\n"} {
		for place := range right {
			for c := range 256 {
				b := []byte(right)
				b[place] = byte(c)
				hold(t, what, b)
				hold(t, what, append(b, "\r\n\r\n"...))
			}
		}
	}
	connect := "CONNECT a.b:443 HTTP/1.1\r\n\r\n"
	for place := range connect {
		for c := range 256 {
			b := []byte(connect)
			b[place] = byte(c)
			hold(t, "Request", b)
		}
	}
}

// Rule 4: bytes that are handed in are not changed, and nothing that was told hangs on them.
func TestHandedIn(t *testing.T) {
	for what, b := range map[string]string{"End": get + "\r\n", "Request": get + "A: b\r\n\r\nmore", "Reply": ok + "A: b\r\n\r\nmore"} {
		in := []byte(b)
		want, _ := readers[what]([]byte(b))
		got, err := readers[what](in)
		if string(in) != b {
			t.Errorf("%s has changed %q into %q", what, b, in)
		}
		clear(in)
		if err != nil || !same(got, want) {
			t.Errorf("%s: %+v, %v behind its bytes being others, want %+v", what, got, err, want)
		}
	}
	for what, read := range readers {
		in := []byte("G@T \r\n\x00\r\n\r\n")
		before := bytes.Clone(in)
		read(in)
		if !bytes.Equal(in, before) {
			t.Errorf("%s has changed %q into %q", what, before, in)
		}
	}
}

// Rule 4: what is told is the caller's own: fields and faults may be written over, and are told anew as they were.
func TestHandedOut(t *testing.T) {
	b := []byte(get + "A: b\r\nC: d\r\n\r\n")
	first, _, _ := head.Request(b)
	first.Fields[0] = api.Field{Name: "z"}
	wantRequest(t, string(b), withFields("Request", api.Field{Name: "A", Value: "b"}, api.Field{Name: "C", Value: "d"}).request)
	for _, b := range []string{"", "\r\n", "G@T / HTTP/1.1\r\n\r\n", "GET / HTTP/1.1\r\n\r\n", "GET http://- HTTP/1.1\r\n\r\n", get + "a: \x00\r\n\r\n", ok + "x\r\n\r\n", many(9000, 'x')} {
		for what, read := range readers {
			_, first := read([]byte(b))
			if first == nil {
				continue
			}
			text := first.Error()
			if inner, ok := first.(*api.Fault).Err.(*api.Fault); ok {
				*inner = api.Fault{Layer: "other", At: 99}
			}
			*first.(*api.Fault) = api.Fault{Layer: "other", At: 99}
			if _, second := read([]byte(b)); second == nil || second.Error() != text {
				t.Errorf("%s of %s: %v behind a fault that was written over, want %s", what, short(b), second, text)
			}
		}
	}
}

// P2: whatever is asked, and refused, in between: the same question has the same answer.
func TestCallsKeepNothing(t *testing.T) {
	r := rand.New(rand.NewSource(83))
	for range 300 {
		b := drawnHead(r)
		for what := range readers {
			hold(t, what, b)
		}
		head.PutRequest(api.Request{Method: string(b)})
		head.PutReply(api.Reply{Status: r.Int(), Reason: string(b)})
		head.Token(string(b))
		head.Value(string(b))
		head.Get([]api.Field{{Name: string(b)}}, string(b))
		hold(t, "Request", []byte(get+"Host: a.b\r\n\r\n"))
		hold(t, "Reply", []byte(ok+"Host: a.b\r\n\r\n"))
	}
}
