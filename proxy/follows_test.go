package proxy_test

import (
	"fmt"
	"math/rand"
	"slices"
	"strings"
	"testing"

	"sallyport/api"
	"sallyport/fields"
	"sallyport/head"
	"sallyport/proxy"
)

// conversations is what clients say, well or not.
var conversations = []string{
	"",
	"GET",
	with(getLine)[:28],
	with(getLine),
	with("GET http://A.b:81 HTTP/1.0", "Host:c", "X:1", "Connection:X", "Y: 2") + "more",
	with(getLine, "X: 1") + with(getLine, "Y: 2"),
	with("GET http://10.0.0.1/ HTTP/1.1", "Content-Length: 0") + "x\r\n\r\n",
	with(getLine, "Content-Length: 1") + "y",
	with(getLine, "Content-Length: 0", "Content-Length: 0"),
	with(getLine, "Transfer-Encoding: chunked") + "1\r\nx\r\n0\r\n\r\n",
	with(tunnelLine),
	with(tunnelLine, "Host: a.b", "Content-Length: 7") + "\x16\x03\x01",
	with(tunnelLine) + with(getLine),
	with(postLine, "Content-Length: 4") + "body",
	with("HEAD http://a HTTP/1.1") + with(getLine),
	"\r\n" + with(getLine),
	"\n\r\n\r\n",
	"x\r\n\r\n" + with(getLine),
	lines("GET / HTTP/1.1", "Host: a") + "more",
	with(getLine, "x") + with(getLine),
	with(getLine, "x: \x00y"),
	with("CONNECT a HTTP/1.1"),
	"GET http://a/ HTTP/1.1\n\n" + with(getLine),
	"GET http://a/ HTTP/1.1\r\nX: 1\r\r\n\r\n",
	"\x05\x01\x00\x05\x01\x00\x03\x01\x61\x00\x50\r\n\r\n",
}

// client hands in what comes together with what was not read so far, and writes down all that it sees.
type client struct {
	c       *proxy.Conn
	waiting string
	said    string
	seen    []string
}

// bring hands a piece in, and goes on as long as something is read.
func (l *client) bring(piece string) {
	l.waiting += piece
	for {
		n := l.c.Add([]byte(l.waiting))
		l.look()
		if n == 0 {
			return
		}
		l.waiting = l.waiting[n:]
	}
}

// look writes the state down where it is another one, with all that was said on the way there, what is wanted, and what is sent on.
func (l *client) look() {
	l.said += string(l.c.Out())
	r, ok := l.c.Wants()
	now := fmt.Sprintf("%d %q %q %v %q", l.c.State(), l.said, fmt.Sprint(r), ok, l.c.Sends())
	if len(l.seen) == 0 || l.seen[len(l.seen)-1] != now {
		l.seen = append(l.seen, now)
	}
}

// hears is all that comes of pieces that are brought in a row, of a Pass and a code that are told then, and of what comes behind.
func hears(pass bool, code int, pieces ...string) string {
	l := &client{c: proxy.New()}
	l.look()
	for _, piece := range pieces {
		l.bring(piece)
	}
	passed := api.OK
	if pass {
		passed = l.c.Pass()
	}
	l.look()
	told := l.c.Tell(code)
	l.bring("more")
	return fmt.Sprint(strings.Join(l.seen, ", "), ", passed: ", int(passed), ", told: ", int(told))
}

// 18.4: conversations that are cut at each place, at each two, and at all, come to the same states, the same that is said, wanted and sent on.
func TestAsItComes(t *testing.T) {
	for i, text := range conversations {
		for k, code := range []int{200, 502} {
			want := hears(k == 0, code, text)
			hold := func(pieces ...string) {
				t.Helper()
				if got := hears(k == 0, code, pieces...); got != want {
					t.Fatalf("conversation %d in %d pieces, %q: %s, want %s", i, len(pieces), pieces, got, want)
				}
			}
			hold(strings.Split(text, "")...)
			for a := 0; a <= len(text); a++ {
				hold(text[:a], text[a:])
				for b := a; b <= len(text); b++ {
					hold(text[:a], text[a:b], text[b:])
				}
			}
		}
	}
}

// 18.4: long conversations, byte by byte and in drawn pieces: heads of as many bytes and fields as may be, and one that has no end.
func TestLongAsItComes(t *testing.T) {
	draw := rand.New(rand.NewSource(184))
	longest, _ := bounded(t, api.MaxHead, "a", "/")
	tooLong, _ := bounded(t, api.MaxHead+1, "a", "/")
	for i, text := range []string{
		longest + "more", tooLong + "more", with(getLine, numbered(64)...) + "more", with(getLine, numbered(65)...) + "more", with(tunnelLine, numbered(64)...),
		many(api.MaxHead+9, 'x'), tunnelLine + many(api.MaxHead, '\r') + "\n\r\n\r\n",
	} {
		want := hears(true, 200, text)
		if got := hears(true, 200, strings.Split(text, "")...); got != want {
			t.Errorf("text %d byte by byte: %s, want %s", i, short(got), short(want))
		}
		for range 100 {
			if got := hears(true, 200, cut(draw, text)...); got != want {
				t.Fatalf("text %d in pieces: %s, want %s", i, short(got), short(want))
			}
		}
		for n := max(0, min(len(text), api.MaxHead)-6); n < len(text); n++ {
			if got := hears(true, 200, text[:n], text[n:]); got != want {
				t.Fatalf("text %d cut at %d: %s, want %s", i, n, short(got), short(want))
			}
		}
	}
}

// cut is a text in drawn pieces, empty ones among them.
func cut(draw *rand.Rand, text string) []string {
	var pieces []string
	for len(text) > 0 {
		n := min(len(text), draw.Intn(1<<draw.Intn(13)))
		pieces = append(pieces, text[:n])
		text = text[n:]
	}
	return append(pieces, "")
}

// pick is one of some, as drawn.
func pick[T any](draw *rand.Rand, some ...T) T {
	return some[draw.Intn(len(some))]
}

// sized is a text in the letters of one of its sizes, as drawn.
func sized(draw *rand.Rand, s string) string {
	return pick(draw, sizes(s)...)
}

// drawnLine is a line of a field: mostly a right one, and often one that a proxy looks at.
func drawnLine(draw *rand.Rand) string {
	name := sized(draw, pick(draw, "X", "Y", "Z", "X-Y", "Via", "Host", "Host", "Connection", "Connection", "Connection", "Keep-Alive", "Proxy-Authorization", "TE", "Trailer", "Upgrade", "Close"))
	switch draw.Intn(60) {
	case 0:
		return sized(draw, "Content-Length") + ":" + pick(draw, "0", " 0", " 1", "", " 00")
	case 1:
		return sized(draw, "Content-Length") + ": 0"
	case 2:
		return sized(draw, "Transfer-Encoding") + ": " + pick(draw, "chunked", "")
	case 3:
		return pick(draw, "", "x", " : 1", "x y: 1", "x:\x00", ":", "x: 1\r", "\nx: 1", many(65, 'n')+": 1", "x: "+many(4097, 'v'))
	}
	value := pick(draw, "", "1", "v w", many(draw.Intn(500), 'v'))
	if draw.Intn(2) == 0 {
		value = pick(draw, "x", "Y", "z , y", "x-y,close", "via,,HOST", "te, x", "x y", ",", "X;Y, Z", "close")
	}
	return name + ":" + pick(draw, "", " ", " ", "\t ") + value + pick(draw, "", "", " ", "\t")
}

// drawnHead is a head, mostly a right one, and mostly of a GET.
func drawnHead(draw *rand.Rand) string {
	authority := pick(draw, "a", "a.b", "A.B:80", "a:8080", "10.0.0.1", "10.0.0.1:81", "Example.com:443", longName)
	first := "GET http://" + authority + pick(draw, "", "/", "/x", "/y?z", "/"+many(draw.Intn(2047), 'p'))
	switch draw.Intn(10) {
	case 0, 1:
		first = "CONNECT " + pick(draw, "a:1", "A.b:443", "10.0.0.1:80", authority)
	case 2:
		first = pick(draw, "POST", "HEAD", "get", "Connect", "GETS", "OPTIONS") + first[3:]
	case 3:
		first = pick(draw, "GET /x", "GET", "GET http://", "GET https://a/", "GET http://-/", "", "G T http://a/", "GET http://a/\x7f")
	}
	list := []string{first + pick(draw, " HTTP/1.1", " HTTP/1.1", " HTTP/1.1", " HTTP/1.0", " HTTP/1.1", " HTTP/1.1", " HTTP/2.0")}
	if draw.Intn(20) == 0 {
		list = append(list, numbered(draw.Intn(9)+57)...)
	}
	for range draw.Intn(pick(draw, 1, 4, 9, 9, 70)) {
		list = slices.Insert(list, 1+draw.Intn(len(list)), drawnLine(draw))
	}
	text := lines(list...)
	if draw.Intn(12) == 0 {
		b := []byte(text)
		b[draw.Intn(len(b))] ^= 1 << draw.Intn(8)
		return string(b)
	}
	return text
}

// fieldLines are the lines of fields of a head, which has to be one: none of its lines has a CR or LF in it, and none behind the first one is empty.
func fieldLines(t *testing.T, text, first string) []string {
	t.Helper()
	if n, err := head.End([]byte(text)); n != len(text) || err != nil {
		t.Fatalf("%s has %d bytes; its head has %d, %v", short(text), len(text), n, err)
	}
	rest, ok := strings.CutPrefix(text, first+"\r\n")
	if !ok || strings.Contains(strings.ReplaceAll(rest, "\r\n", ""), "\r") || strings.Contains(strings.ReplaceAll(rest, "\r\n", ""), "\n") {
		t.Fatalf("%s does not begin by %s, or has ends of lines that stand alone", short(text), first)
	}
	return strings.Split(strings.TrimSuffix(rest, "\r\n\r\n"), "\r\n")
}

// holdSent wants what is sent on to be one head of the path, the destination's Host, the end of the connection, and then fields of the request in its order, none of which is a hop field or another Host; it answers its fields.
func holdSent(t *testing.T, r api.Request, sends string) []api.Field {
	t.Helper()
	list := read(fieldLines(t, sends, "GET "+r.Path+" HTTP/1.1")...)
	if len(sends) > api.MaxHead || len(list) < 2 || list[0].Name != "Host" || list[1] != (api.Field{Name: "Connection", Value: "close"}) {
		t.Fatalf("%s is sent on (%d bytes)", short(sends), len(sends))
	}
	hops, e := fields.Hops(r.Fields)
	if e != api.OK {
		t.Fatalf("Hops: %v", e)
	}
	rest := r.Fields
	for _, field := range list[2:] {
		at := slices.Index(rest, field)
		if at < 0 || slices.Contains(hops, field) || low(field.Name) == "host" {
			t.Fatalf("%v is sent on of %s", field, short(fmt.Sprint(r.Fields)))
		}
		rest = rest[at+1:]
	}
	return list
}

// holdRead wants what is sent on to be read, with the destination put into its target again, as a GET of the same; its Host is the destination, and its only hop fields are the Connection and what that names.
func holdRead(t *testing.T, r api.Request, sends string, list []api.Field) {
	t.Helper()
	whole := strings.Replace(sends, "GET /", "GET http://"+list[0].Value+"/", 1)
	if len(list) > api.MaxFields || len(whole) > api.MaxHead {
		return
	}
	got, size, err := head.Request([]byte(whole))
	if err != nil || size != len(whole) || got.Method != "GET" || got.Dest != r.Dest || got.Path != r.Path || !slices.Equal(got.Fields, list) {
		t.Fatalf("%s is read as %s, %d, %v", short(whole), short(fmt.Sprint(got)), size, err)
	}
	hops, e := fields.Hops(got.Fields)
	for _, field := range hops {
		if name := low(field.Name); e != api.OK || name != "connection" && name != "close" {
			t.Fatalf("%s has the hop fields %v, %v", short(whole), hops, e)
		}
	}
}

// 18.5: of drawn requests no hop field is sent on, none more often than it came, no Host but the destination's, and what is sent on is one head, which a server reads as it was meant; where nothing is fetched nothing is sent on.
func TestNothingGoesPast(t *testing.T) {
	draw := rand.New(rand.NewSource(185))
	above, none, others := 0, 0, 0
	for range 20000 {
		c := proxy.New()
		text := drawnHead(draw)
		c.Add([]byte(text))
		r, _ := c.Wants()
		sends := string(c.Sends())
		if c.State() != proxy.Fetches {
			if sends != "" {
				t.Fatalf("state %d of %s: %s is sent on", c.State(), short(text), short(sends))
			}
			continue
		}
		list := holdSent(t, r, sends)
		holdRead(t, r, sends, list)
		switch {
		case len(list) > api.MaxFields:
			above++
		case len(list) == 2:
			none++
		default:
			others++
		}
	}
	if above < 20 || none < 100 || others < 1000 {
		t.Errorf("sent on: %d times more than MaxFields fields, %d times none, %d times others", above, none, others)
	}
}

// 18.6: what is said in all is nothing, or one own answer, however long the client goes on and whatever is told.
func TestSaidAtMost(t *testing.T) {
	draw := rand.New(rand.NewSource(186))
	ends := map[string]int{}
	for range 5000 {
		l := &client{c: proxy.New()}
		for range 3 {
			for _, piece := range cut(draw, drawnHead(draw)) {
				over, said := l.c.State() == proxy.Over || l.c.State() == proxy.Open, l.said
				l.bring(piece)
				switch draw.Intn(16) {
				case 0:
					l.c.Tell(pick(draw, rightCodes...))
				case 1:
					l.c.Pass()
				case 2:
					l.c = l.c.Clone()
				}
				l.look()
				if over && l.said != said {
					t.Fatalf("behind the end: said %q, %q ahead of it", l.said, said)
				}
			}
		}
		if l.said != "" && !slices.ContainsFunc(rightCodes, func(code int) bool { return l.said == ownText(code) }) {
			t.Fatalf("said in all: %q", l.said)
		}
		ends[l.said]++
	}
	if len(ends) != 1+len(rightCodes) {
		t.Errorf("of all that may be said only %d ends were seen: %v", len(ends), ends)
	}
}

// An Over connection, and an open one, stay so, and say no more.
func TestTheEnd(t *testing.T) {
	for _, state := range []int{proxy.Open, proxy.Over} {
		for _, c := range inState(t, state) {
			c.Out()
			for _, text := range append(conversations, behind...) {
				wantAdd(t, c, text, 0)
				wantPass(t, c, api.ErrClosed)
				wantTell(t, c, 200, api.ErrClosed)
				wantTell(t, c, 502, api.ErrClosed)
				wantComes(t, c, comes{state: state})
			}
		}
	}
}
