package dns_test

import (
	"math/rand"
	"regexp"
	"strings"
	"testing"

	"sallyport/api"
	"sallyport/dns"
)

// wrong is what is wrong with a message, and where; its zero value, if nothing is.
type wrong struct {
	at     int
	number api.Errno
}

var (
	labelForm = regexp.MustCompile(`^[a-zA-Z0-9]([a-zA-Z0-9-]{0,61}[a-zA-Z0-9])?$`)
	digitForm = regexp.MustCompile(`(^|\.)[0-9]*$`)
)

// page is bytes that are read by the chapter's words, without a place to stand at: what is wrong is thrown.
type page string

func (p page) must(right bool, at int, number api.Errno) {
	if !right {
		panic(wrong{at, number})
	}
}

// has wants so many bytes to be there from a place on.
func (p page) has(at, size int) {
	p.must(at >= 0 && at <= len(p) && size <= len(p)-at, len(p), api.ErrShort)
}

func (p page) number(at int) int {
	p.has(at, 2)
	return int(p[at])*256 + int(p[at+1])
}

func (p page) name(at int) (string, int) {
	p.has(at, 1)
	text, behind := p.rest(at, at, at, "")
	p.must(!digitForm.MatchString(text), at, api.ErrHost)
	return strings.ToLower(text), behind
}

// rest reads the name that begins at begin on from a place in the piece that begins at piece, with this text ahead of it.
func (p page) rest(begin, piece, at int, ahead string) (string, int) {
	p.has(at, 1)
	size := int(p[at])
	switch {
	case size == 0:
		return ahead, at + 1
	case size >= 192:
		to := p.number(at) - 192*256
		p.must(to < piece, at, api.ErrLoop)
		text, _ := p.rest(begin, to, to, ahead)
		return text, at + 2
	case size >= 64:
		panic(wrong{at, api.ErrLabel})
	}
	p.has(at+1, size)
	label := string(p[at+1 : at+1+size])
	p.must(labelForm.MatchString(label), at, api.ErrLabel)
	text := strings.TrimPrefix(ahead+"."+label, ".")
	p.must(len(text) <= 253, begin, api.ErrHost)
	return p.rest(begin, piece, at+1+size, text)
}

// question reads a head and a question; highest is what bit 15 must be.
func (p page) question(highest int) (api.Query, int) {
	p.must(len(p) <= 512, 512, api.ErrLong)
	id, flags := p.number(0), p.number(2)
	p.must(flags/0x8000 == highest && flags/0x800%16 == 0 && flags/0x200%2 == 0, 2, api.ErrKind)
	p.must(p.number(4) == 1, 4, api.ErrKind)
	p.has(6, 2)
	p.has(8, 2)
	p.has(10, 2)
	name, at := p.name(12)
	p.must(p.number(at) == 1, at, api.ErrKind)
	p.must(p.number(at+2) == 1, at, api.ErrKind)
	return query(id, name), at + 4
}

// answers reads so many records from a place on, the name that is looked for being this one.
func (p page) answers(a *api.Answer, number, at int, wanted string) {
	if number == 0 {
		return
	}
	name, typeAt := p.name(at)
	kind, class, high, low, size := p.number(typeAt), p.number(typeAt+2), p.number(typeAt+4), p.number(typeAt+6), p.number(typeAt+8)
	data := typeAt + 10
	p.has(data, size)
	seconds := high*65536 + low
	if high >= 0x8000 {
		seconds = 0
	}
	if name == wanted && kind == 5 && class == 1 {
		alias, end := p.name(data)
		p.must(end == data+size, data, api.ErrShort)
		wanted, a.TTL = alias, min(a.TTL, seconds)
	}
	if name == wanted && kind == 1 && class == 1 && size == 4 {
		a.Addrs = append(a.Addrs, api.Addr{A: p[data], B: p[data+1], C: p[data+2], D: p[data+3]})
		a.TTL = min(a.TTL, seconds)
	}
	p.answers(a, number-1, data+size, wanted)
}

func (p page) answer() api.Answer {
	q, at := p.question(1)
	a := api.Answer{Query: q, Code: p.number(2) % 16, TTL: api.MaxAge}
	if a.Code == 0 {
		p.answers(&a, p.number(6), at, q.Name)
	}
	if len(a.Addrs) == 0 {
		a.TTL = 0
	}
	a.Addrs = a.Addrs[:min(16, len(a.Addrs))]
	return a
}

// caught tells what was thrown.
func caught(w *wrong) {
	if thrown := recover(); thrown != nil {
		*w = thrown.(wrong)
	}
}

func modelName(b string, at int) (name string, behind int, w wrong) {
	defer caught(&w)
	name, behind = page(b).name(at)
	return
}

func modelQuestion(b string) (q api.Query, w wrong) {
	defer caught(&w)
	q, _ = page(b).question(0)
	return
}

func modelAnswer(b string) (a api.Answer, w wrong) {
	defer caught(&w)
	return page(b).answer(), wrong{}
}

// hold holds all readers against the model.
func hold(t *testing.T, b string) {
	t.Helper()
	readQuestion(t, b)
	readAnswer(t, b)
}

// allOf calls use with every row of so many bytes out of an alphabet.
func allOf(alphabet string, n int, use func(b string)) {
	b := make([]byte, n)
	var fill func(i int)
	fill = func(i int) {
		if i == n {
			use(string(b))
			return
		}
		for _, c := range []byte(alphabet) {
			b[i] = c
			fill(i + 1)
		}
	}
	fill(0)
}

// 10.1: every short row of bytes has the names, at each of its places, that the chapter's words say.
func TestShortRows(t *testing.T) {
	for n := range 7 {
		allOf("\x00\x01\x02\xc0a-", n, func(b string) {
			for at := -1; at <= n+1; at++ {
				readName(t, b, at)
			}
		})
	}
	for n := range 5 {
		allOf("\x00\x01\x02\x03\x3f\x40\x80\xc0\xc1\xffZ9.-", n, func(b string) {
			for at := range n + 1 {
				readName(t, b, at)
			}
		})
	}
}

// 10.2, 10.3: every short row of bytes behind a head is read, or refused, as the chapter's words say.
func TestShortRowsBehindAHead(t *testing.T) {
	for n := range 5 {
		allOf("\x00\x01\x02\x05\x0c\xc0a", n, func(b string) {
			hold(t, top(7, answering, 1)+b)
			hold(t, top(7, asking, 1)+b)
			hold(t, reply("a", 1)+b)
			hold(t, reply("a", 1, toQuestion, two(5))+b)
			hold(t, reply("a", 1, toQuestion, two(1), two(1), four(9))+b)
			hold(t, reply("a", 1, toQuestion, two(5), two(1), four(9))+b)
			hold(t, reply("a", 2, toQuestion, two(5), two(1), four(9))+b+toQuestion+two(1)+two(1)+four(9)+two(4)+"wxyz")
		})
	}
}

// drawnName is a name as it may stand in a message at a place: labels and an end, or what leads elsewhere.
func drawnName(r *rand.Rand, at int) string {
	if r.Intn(2) == 0 {
		return toQuestion
	}
	text := ""
	for r.Intn(4) == 0 {
		text += labels([]string{"a", "b", "A", "c-d", "7", "a.b", "x.-", many(63, 'x')}[r.Intn(8)])
	}
	switch r.Intn(16) {
	case 0:
		return text + lead(r.Intn(at+len(text)+4))
	case 1, 2, 3:
		return text + toQuestion
	case 4:
		return text + whole("9")
	}
	return text + whole([]string{"a", "a", "B", "a.b", "c"}[r.Intn(5)])
}

func drawnNumber(r *rand.Rand, list ...int) int {
	return list[r.Intn(len(list))]
}

// drawnRecord is a record as it may stand in a message at a place.
func drawnRecord(r *rand.Rand, at int) string {
	text := drawnName(r, at)
	kind := drawnNumber(r, 1, 1, 1, 5, 5, 5, 28)
	text += two(kind) + two(drawnNumber(r, 1, 1, 1, 1, 1, 1, 3)) + four(drawnNumber(r, 0, 1, 9, 60, 60, 60, api.MaxAge, api.MaxAge+1, 1<<31, 1<<31-1))
	data := "\x0a\x00\x00" + one(r.Intn(256))
	if kind == 5 {
		data = drawnName(r, at+len(text)+2)
	}
	if r.Intn(16) == 0 {
		data += "\x00"
	}
	return text + two(max(0, len(data)-drawnNumber(r, 0, 0, 0, 0, 0, 0, 0, 0, 0, 1))) + data
}

// drawnMessage is a message that may well be right, with now and then a byte of it turned into another one, cut, or with bytes behind it.
func drawnMessage(r *rand.Rand) string {
	records := drawnNumber(r, 0, 1, 1, 2, 2, 3, 4, 5, 20)
	count := records
	if r.Intn(8) == 0 {
		count += r.Intn(3) - 1
	}
	text := top(r.Intn(9), drawnNumber(r, asking, answering, answering, answering, answering, answering|3), count&0xffff)
	text += asked([]string{"a", "B", "a.b", "c", "7.a"}[r.Intn(5)])
	for range records {
		text += drawnRecord(r, len(text))
	}
	b := []byte(text)
	if r.Intn(4) == 0 {
		b[r.Intn(len(b))] = byte(r.Intn(256))
	}
	if r.Intn(4) == 0 {
		b = b[:r.Intn(len(b)+1)]
	}
	if r.Intn(4) == 0 {
		b = append(b, many(r.Intn(100), byte(r.Intn(256)))...)
	}
	return string(b)
}

// 10.1, 10.2, 10.3: drawn messages are read, or refused, as the chapter's words say.
func TestModel(t *testing.T) {
	r := rand.New(rand.NewSource(100))
	right := 0
	for range 120000 {
		b := drawnMessage(r)
		hold(t, b)
		readName(t, b, r.Intn(len(b)+2)-1)
		if a, w := modelAnswer(b); w == (wrong{}) && len(a.Addrs) > 0 {
			right++
		}
	}
	if right < 5000 {
		t.Errorf("only %d of the messages that are drawn tell addresses", right)
	}
}

// 10.1: drawn bytes have the names, at each of their places, that the chapter's words say.
func TestModelOfNames(t *testing.T) {
	r := rand.New(rand.NewSource(101))
	for range 3000 {
		text := many(r.Intn(3), 0)
		for range r.Intn(12) {
			text += drawnName(r, len(text))
		}
		for at := range len(text) + 1 {
			readName(t, text, at)
		}
	}
}

// 10.8: what was read without a fault is told alike of each longer message with the same first bytes.
func TestLongerMessages(t *testing.T) {
	r := rand.New(rand.NewSource(102))
	for range 30000 {
		b := drawnMessage(r)
		more := b + drawnMessage(r)
		more = more[:min(len(more), max(len(b), api.MaxGram))]
		if a, err := dns.Answer([]byte(b)); err == nil {
			if again, err := dns.Answer([]byte(more)); err != nil || !sameAnswer(a, again) {
				t.Fatalf("Answer of %s: %+v; of %s: %+v, %v", short(b), a, short(more), again, err)
			}
		}
		if q, err := dns.Question([]byte(b)); err == nil {
			if again, err := dns.Question([]byte(more)); err != nil || q != again {
				t.Fatalf("Question of %s: %v; of %s: %v, %v", short(b), q, short(more), again, err)
			}
		}
	}
}

// P1: every byte at each place of a right message ends in an answer as the chapter says.
func TestEveryByte(t *testing.T) {
	for _, right := range []string{
		top(7, asking, 0) + asked("a.b"),
		reply("a.b", 1, addresses(1, 60)),
		reply("a.b", 3, record(toQuestion, 5, 9, "\x01c\xc0\x0e"), record("\x01c\xc0\x0e", 16, 1, "\x01x"), address("\x01C\x01b\x00", 60, 2)),
	} {
		for place := range right {
			for c := range 256 {
				b := right[:place] + one(c) + right[place+1:]
				hold(t, b)
				readName(t, b, questionAt)
			}
		}
	}
}

// P1: any bytes at all end in an answer as the chapter says.
func TestNoise(t *testing.T) {
	r := rand.New(rand.NewSource(103))
	for range 20000 {
		b := make([]byte, r.Intn(600))
		for i := range b {
			b[i] = byte(r.Intn(256) >> r.Intn(8))
		}
		hold(t, string(b))
		hold(t, top(1, answering, 2)+string(b))
		readName(t, string(b), r.Intn(600))
	}
}
