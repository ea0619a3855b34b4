package proxy_test

import (
	"math"
	"math/rand"
	"regexp"
	"slices"
	"strconv"
	"strings"
	"testing"

	"sallyport/api"
	"sallyport/proxy"
)

// What heads are made of, as chapters 6 and 8 have it.
var (
	firstForm   = regexp.MustCompile("\\A([A-Za-z0-9!#$%&'*+.^_`|~-]{1,64}) ([!-~]+) HTTP/1\\.[01]\\z")
	targetForm  = regexp.MustCompile(`\Ahttp://([^/]*)((?:/[!-~]*)?)\z`)
	portForm    = regexp.MustCompile(`\A[1-9][0-9]{0,4}\z`)
	addressForm = regexp.MustCompile(`\A(0|[1-9][0-9]{0,2})\.(0|[1-9][0-9]{0,2})\.(0|[1-9][0-9]{0,2})\.(0|[1-9][0-9]{0,2})\z`)
	nameForm    = regexp.MustCompile(`\A([a-z0-9]([a-z0-9-]{0,61}[a-z0-9])?\.)*[a-z0-9]([a-z0-9-]{0,61}[a-z0-9])?\z`)
	digitsEnd   = regexp.MustCompile(`(\A|\.)[0-9]+\z`)
	fieldForm   = regexp.MustCompile("\\A([A-Za-z0-9!#$%&'*+.^_`|~-]{1,64}):[ \t]*((?:[!-~](?:[ \t!-~]*[!-~])?)?)[ \t]*\\z")
)

// modelHost reads an address or a name.
func modelHost(text string) (api.Host, bool) {
	if m := addressForm.FindStringSubmatch(text); m != nil {
		var parts [4]int
		for i := range parts {
			parts[i], _ = strconv.Atoi(m[i+1])
			if parts[i] > 255 {
				return api.Host{}, false
			}
		}
		return api.Host{Addr: api.Addr{A: byte(parts[0]), B: byte(parts[1]), C: byte(parts[2]), D: byte(parts[3])}}, true
	}
	name := low(text)
	return api.Host{Name: name}, len(name) <= 253 && nameForm.MatchString(name) && !digitsEnd.MatchString(name)
}

// low is a text with small letters of ASCII.
func low(text string) string {
	return strings.Map(func(r rune) rune {
		if 'A' <= r && r <= 'Z' {
			return r + 32
		}
		return r
	}, text)
}

// modelDest reads a destination, whose port may be missing where there is one besides.
func modelDest(text string, besides int) (api.Dest, bool) {
	at := strings.LastIndex(text, ":")
	port := besides
	if at >= 0 {
		if !portForm.MatchString(text[at+1:]) {
			return api.Dest{}, false
		}
		port, _ = strconv.Atoi(text[at+1:])
		text = text[:at]
	}
	h, ok := modelHost(text)
	return api.Dest{Host: h, Port: port}, ok && port > 0 && port < 65536
}

// modelRequest reads the head of a request that is there whole.
func modelRequest(text string) (api.Request, bool) {
	list := strings.Split(strings.TrimSuffix(text, "\r\n\r\n"), "\r\n")
	m := firstForm.FindStringSubmatch(list[0])
	if m == nil || len(list) > 65 {
		return api.Request{}, false
	}
	r, ok := api.Request{Method: m[1]}, false
	if r.Method == "CONNECT" {
		r.Dest, ok = modelDest(m[2], 0)
	} else if to := targetForm.FindStringSubmatch(m[2]); to != nil {
		r.Dest, ok = modelDest(to[1], 80)
		ok = ok && len(to[2]) <= 2048
		r.Path = to[2]
		if r.Path == "" {
			r.Path = "/"
		}
	}
	for _, line := range list[1:] {
		m := fieldForm.FindStringSubmatch(line)
		if m == nil || len(m[2]) > 4096 {
			return api.Request{}, false
		}
		r.Fields = append(r.Fields, api.Field{Name: m[1], Value: m[2]})
	}
	return r, ok
}

// modelSends is what is sent on, line by line.
func modelSends(r api.Request) string {
	gone := []string{"host", "connection", "keep-alive", "proxy-authenticate", "proxy-authorization", "proxy-connection", "te", "trailer", "transfer-encoding", "upgrade"}
	for _, field := range r.Fields {
		if low(field.Name) == "connection" {
			for _, part := range strings.Split(low(field.Value), ",") {
				gone = append(gone, strings.Trim(part, " \t"))
			}
		}
	}
	var kept []string
	for _, field := range r.Fields {
		if !slices.Contains(gone, low(field.Name)) {
			kept = append(kept, field.Name+": "+field.Value)
		}
	}
	to := r.Dest.Host.Name
	if to == "" {
		a := r.Dest.Host.Addr
		to = strings.Join([]string{strconv.Itoa(int(a.A)), strconv.Itoa(int(a.B)), strconv.Itoa(int(a.C)), strconv.Itoa(int(a.D))}, ".")
	}
	if r.Dest.Port != 80 {
		to += ":" + strconv.Itoa(r.Dest.Port)
	}
	return sent(r.Path, to, kept...)
}

// modelBody: has a request a body, or might it?
func modelBody(r api.Request) bool {
	var lengths []string
	for _, field := range r.Fields {
		switch low(field.Name) {
		case "transfer-encoding":
			return true
		case "content-length":
			lengths = append(lengths, field.Value)
		}
	}
	return len(lengths) > 1 || len(lengths) == 1 && lengths[0] != "0"
}

// model is what the chapter says, said plainly, with a reading of heads that knows nothing of the layers below.
type model struct {
	comes
}

func (m *model) add(b string) int {
	if m.state != proxy.Reads {
		return 0
	}
	seen := b[:min(len(b), 8192)]
	end := strings.Index("\r\n"+seen, "\r\n\r\n") + 2 // an empty line at the very beginning is an end too
	switch {
	case end < 2 && len(b) < 8192:
		return 0
	case end < 2:
		m.comes = answered(400)
		return len(b)
	}
	r, ok := modelRequest(b[:end])
	switch {
	case !ok:
		m.comes = answered(400)
		return len(b)
	case r.Method == "CONNECT":
		m.comes = waits(r)
	case r.Method != "GET":
		m.comes = answered(501)
	case modelBody(r) || len(modelSends(r)) > 8192:
		m.comes = answered(400)
	default:
		m.comes = fetches(r, modelSends(r))
	}
	return end
}

func (m *model) tell(code int) api.Errno {
	switch {
	case ownText(code) == "" || m.state == proxy.Fetches && code == 200:
		return api.ErrArg
	case m.state != proxy.Waits && m.state != proxy.Fetches:
		return api.ErrClosed
	}
	m.comes = answered(code)
	return api.OK
}

func (m *model) pass() api.Errno {
	if m.state != proxy.Fetches {
		return api.ErrClosed
	}
	m.comes = passes(m.sends)
	return api.OK
}

// pair is a connection beside its model.
type pair struct {
	c *proxy.Conn
	m model
}

func newPair() pair {
	return pair{c: proxy.New()}
}

func (p pair) clone() pair {
	return pair{p.c.Clone(), p.m}
}

func (p *pair) add(t *testing.T, b string) int {
	t.Helper()
	n := p.m.add(b)
	wantAdd(t, p.c, b, n)
	return n
}

func (p *pair) tell(t *testing.T, code int) {
	t.Helper()
	wantTell(t, p.c, code, p.m.tell(code))
}

func (p *pair) pass(t *testing.T) {
	t.Helper()
	wantPass(t, p.c, p.m.pass())
}

func (p *pair) out(t *testing.T) {
	t.Helper()
	wantOut(t, p.c, p.m.said)
	p.m.said = ""
}

func (p *pair) check(t *testing.T) {
	t.Helper()
	wantStands(t, p.c, p.m.comes)
}

// hold wants all that a new connection tells of a text to be what the model tells.
func hold(t *testing.T, text string) {
	t.Helper()
	p := newPair()
	p.add(t, text)
	p.check(t)
	p.out(t)
	if t.Failed() {
		t.Fatalf("above: the text %s", short(text))
	}
}

// 18.1 to 18.3: all rows of a few calls; on a clone each, so that Clone is looked at too.
func TestAllShortRows(t *testing.T) {
	texts := []string{
		"", "GET", with(getLine)[:20], with(getLine), fullGet + "more", with(getLine, "Content-Length: 1"), with(getLine, "Transfer-Encoding: x") + "y",
		with(tunnelLine), with(tunnelLine, "X: 1") + "more", with(postLine) + "body", "x\r\n\r\nmore", "\r\n",
	}
	codes := []int{0, 200, 400, 403, 404, 504}
	var walk func(p pair, depth int)
	walk = func(p pair, depth int) {
		p.check(t)
		q := p.clone()
		q.out(t)
		if depth == 0 || t.Failed() {
			return
		}
		for _, text := range texts {
			next := p.clone()
			next.add(t, text)
			walk(next, depth-1)
		}
		for _, code := range codes {
			next := p.clone()
			next.tell(t, code)
			walk(next, depth-1)
		}
		next := p.clone()
		next.out(t)
		walk(next, depth-1)
		next = p.clone()
		next.pass(t)
		walk(next, depth-1)
	}
	walk(newPair(), 4)
}

// someCall is one call, with wrong arguments at times; it answers what of the waiting bytes was not read.
func someCall(t *testing.T, p *pair, draw *rand.Rand, waiting string) string {
	t.Helper()
	switch draw.Intn(15) {
	case 0:
		*p = p.clone()
	case 1:
		p.out(t)
	case 2:
		p.tell(t, pick(draw, wrongCodes...))
	case 3:
		p.tell(t, pick(draw, rightCodes...))
	case 4:
		if p.m.state == proxy.Waits {
			p.tell(t, 200)
		}
	case 5:
		p.pass(t)
	case 6, 7:
		n := draw.Intn(len(waiting) + 1)
		return waiting[p.add(t, waiting[:n]):]
	case 8, 9:
		waiting += drawnHead(draw)
		return waiting[p.add(t, waiting):]
	case 10:
		return waiting + drawnHead(draw)
	default:
		return waiting[p.add(t, waiting):]
	}
	return waiting
}

// 18.1 to 18.3: rows of drawn calls of many connections, wrong ones among them; each state is seen often.
func TestLongRows(t *testing.T) {
	draw := rand.New(rand.NewSource(18))
	seen := make([]int, 6)
	for i := range 12000 {
		p := newPair()
		waiting := ""
		for range 4 + draw.Intn(12) {
			waiting = someCall(t, &p, draw, waiting)
			p.check(t)
			seen[p.m.state]++
		}
		p.out(t)
		if t.Failed() {
			t.Fatalf("above: connection %d", i)
		}
	}
	if slices.Min(seen) < 500 {
		t.Errorf("the states are seen so often: %v", seen)
	}
}

// 18.1, 18.2: drawn heads.
func TestDrawnHeads(t *testing.T) {
	draw := rand.New(rand.NewSource(181))
	for range 20000 {
		hold(t, drawnHead(draw)+pick(draw, "", "", "more", with(getLine)))
	}
}

// 18.1, 18.2: texts that differ from right heads by one byte: more, less, or another one.
func TestNearHeads(t *testing.T) {
	for _, text := range []string{
		with("GET http://a:80/x HTTP/1.1", "Host: h", "connection: y,te", "Y: 1"),
		with("GET http://10.0.0.1 HTTP/1.0", "content-length: 0", "Te:"),
		with("CONNECT a.b:443 HTTP/1.1", "X: 1"),
		with("HEAD http://a/ HTTP/1.1"),
	} {
		for at := range len(text) + 1 {
			for b := range 256 {
				hold(t, text[:at]+one(b)+text[at:])
				if at < len(text) {
					hold(t, text[:at]+one(b)+text[at+1:])
				}
			}
			if at < len(text) {
				hold(t, text[:at]+text[at+1:])
				hold(t, text[:at]+text[:at]+text[at:])
			}
		}
	}
}

// 18.1, 18.2: all short rows of some lines of fields that a proxy looks at.
func TestAllShortFields(t *testing.T) {
	some := []string{"Host: h", "X: 1", "x:2", "Connection: X", "connection: close, host", "TE: x", "Content-Length: 0", "CONTENT-LENGTH: 1", "Transfer-Encoding: y", "Close: 3"}
	var walk func(list []string, depth int)
	walk = func(list []string, depth int) {
		hold(t, with(getLine, list...))
		if depth == 0 {
			return
		}
		for _, line := range some {
			walk(append(list[:len(list):len(list)], line), depth-1)
		}
	}
	walk(nil, 4)
}

// P1: no call panics, whatever it is handed, and none reads more than there is.
func TestAnyArguments(t *testing.T) {
	draw := rand.New(rand.NewSource(78))
	for range 5000 {
		c := proxy.New()
		for range 10 {
			b := make([]byte, draw.Intn(1<<draw.Intn(15)))
			draw.Read(b)
			if draw.Intn(2) == 0 {
				b = append(append(b[:draw.Intn(len(b)+1)], "\r\n\r\n"...), b...)
			}
			if n := c.Add(b); n < 0 || n > len(b) {
				t.Fatalf("Add(%s): %d", short(string(b)), n)
			}
			code := pick(draw, 0, 200, 404, 599, -1, math.MaxInt, math.MinInt, int(draw.Uint64()))
			c.Tell(code)
			proxy.Own(code)
			c.State()
			c.Wants()
			c.Sends()
			c.Pass()
			c.Out()
			c = c.Clone()
		}
	}
}
