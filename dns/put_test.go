package dns_test

import (
	"fmt"
	"math"
	"math/rand"
	"reflect"
	"slices"
	"strings"
	"testing"

	"sallyport/api"
	"sallyport/dns"
)

// wantPut wants a call to have written just these bytes.
func wantPut(t *testing.T, what string, b []byte, e api.Errno, want string) {
	t.Helper()
	if e != api.OK || string(b) != want {
		t.Fatalf("%s: %x, %v, want %x", what, b, e, want)
	}
}

// wantNotPut wants a call to have written nothing for this reason.
func wantNotPut(t *testing.T, what string, b []byte, e, want api.Errno) {
	t.Helper()
	if e != want || len(b) != 0 {
		t.Fatalf("%s: %x, %v, want %v alone", what, b, e, want)
	}
}

// wantQuestionPut wants a query to be written as these bytes, and read as it was.
func wantQuestionPut(t *testing.T, q api.Query, want string) {
	t.Helper()
	b, e := dns.PutQuestion(q)
	wantPut(t, fmt.Sprintf("PutQuestion of %v", q), b, e, want)
	wantQuestion(t, string(b), q)
}

// wantAnswerPut wants an answer to be written as these bytes, read as it was, and to match its own query.
func wantAnswerPut(t *testing.T, a api.Answer, want string) {
	t.Helper()
	in := api.Answer{Query: a.Query, Code: a.Code, TTL: a.TTL, Addrs: slices.Clone(a.Addrs)}
	b, e := dns.PutAnswer(in)
	wantPut(t, fmt.Sprintf("PutAnswer of %+v", a), b, e, want)
	if !reflect.DeepEqual(in.Addrs, a.Addrs) {
		t.Fatalf("PutAnswer changes its addresses: %v, they were %v", in.Addrs, a.Addrs)
	}
	wantAnswer(t, string(b), a)
	got, err := dns.Match(a.Query, b)
	if err != nil || !sameAnswer(got, a) {
		t.Fatalf("Match of %+v: %+v, %v", a, got, err)
	}
}

// 10.2, example 1.
func TestPutQuestion(t *testing.T) {
	wantQuestionPut(t, query(7, "a.b"), "\x00\x07\x01\x00\x00\x01\x00\x00\x00\x00\x00\x00\x01\x61\x01\x62\x00\x00\x01\x00\x01")
	wantQuestionPut(t, query(0x1234, "example.com"), "\x12\x34\x01\x00\x00\x01\x00\x00\x00\x00\x00\x00\x07example\x03com\x00\x00\x01\x00\x01")
	for _, name := range []string{"a", "1.a", "a-b.c", "0a", longName(63), longName(64), longName(252), longName(api.MaxName), strings.Repeat("a.", 126) + "b"} {
		wantQuestionPut(t, query(7, name), top(7, asking, 0)+asked(name))
	}
}

// 10.2, 10.4: ids from 0 to 65535, and no others.
func TestPutIDs(t *testing.T) {
	for _, id := range []int{0, 1, 255, 256, 32767, 32768, 65534, 65535} {
		wantQuestionPut(t, query(id, "a"), top(id, asking, 0)+asked("a"))
		wantAnswerPut(t, api.Answer{Query: query(id, "a"), TTL: 60, Addrs: ten(1)}, top(id, answering, 1)+asked("a")+addresses(1, 60))
	}
	for _, id := range []int{math.MinInt, -65536, -2, -1, 65536, 65537, 131072, math.MaxInt} {
		wantNoQuery(t, query(id, "a"))
	}
}

// wantNoQuery wants both calls to refuse what is no query.
func wantNoQuery(t *testing.T, q api.Query) {
	t.Helper()
	b, e := dns.PutQuestion(q)
	wantNotPut(t, fmt.Sprintf("PutQuestion of %v", q), b, e, api.ErrArg)
	for _, a := range []api.Answer{{Query: q}, {Query: q, Code: 3}, {Query: q, TTL: 60, Addrs: ten(1)}, {Query: q, TTL: 60, Addrs: ten(upTo(16)...)}} {
		b, e = dns.PutAnswer(a)
		wantNotPut(t, fmt.Sprintf("PutAnswer of %+v", a), b, e, api.ErrArg)
	}
}

// 10.2, 10.4: names that are none, and names not in their form.
func TestPutNames(t *testing.T) {
	for _, name := range []string{
		"", ".", "a.", ".a", "a..b", "-", "a-", "-a", "a.-", "a b", "a_b", "a\x00", "\xff", "5", "10.0.0.1", "a.5",
		"A", "a.B", "Example.com", many(64, 'a'), "a." + many(64, 'a'), longName(254), longName(255), longName(300), many(1<<17, 'a'), strings.Repeat("a.", 127) + "b",
	} {
		wantNoQuery(t, query(7, name))
	}
	for c := range 256 {
		if small := strings.IndexByte("abcdefghijklmnopqrstuvwxyz0123456789", byte(c)) >= 0; small {
			wantQuestionPut(t, query(7, "x"+one(c)), top(7, asking, 0)+asked("x"+one(c)))
		} else {
			wantNoQuery(t, query(7, "x"+one(c)))
		}
	}
}

// 10.4: an answer for each address, in their order.
func TestPutAnswer(t *testing.T) {
	wantAnswerPut(t, told("a.b", 60, 1),
		"\x00\x07\x81\x80\x00\x01\x00\x01\x00\x00\x00\x00\x01a\x01b\x00\x00\x01\x00\x01\xc0\x0c\x00\x01\x00\x01\x00\x00\x00\x3c\x00\x04\x0a\x00\x00\x01")
	wantAnswerPut(t, told("a", 0), top(7, answering, 0)+asked("a"))
	wantAnswerPut(t, api.Answer{Query: query(7, "a"), TTL: 0x0f0201, Addrs: []api.Addr{{A: 1, B: 2, C: 3, D: 4}, {A: 255, B: 254, C: 253, D: 252}, {}}},
		top(7, answering, 3)+asked("a")+record(toQuestion, 1, 0x0f0201, "\x01\x02\x03\x04")+record(toQuestion, 1, 0x0f0201, "\xff\xfe\xfd\xfc")+record(toQuestion, 1, 0x0f0201, many(4, 0)))
	for n := range 17 {
		want := told("a", 60, upTo(n)...)
		if n == 0 {
			want.TTL = 0
		}
		wantAnswerPut(t, want, reply("a", n, addresses(n, 60)))
	}
	for _, n := range []int{17, 18, 31, 32, 300, api.MaxItems + 1} {
		wantAnswerNotPut(t, told("a", 60, upTo(n)...), api.ErrArg)
		wantAnswerNotPut(t, told("a", 0, upTo(n)...), api.ErrArg)
	}
}

func wantAnswerNotPut(t *testing.T, a api.Answer, want api.Errno) {
	t.Helper()
	b, e := dns.PutAnswer(a)
	wantNotPut(t, fmt.Sprintf("PutAnswer of %+v", a), b, e, want)
}

// 10.4: codes from 0 to 15; those above 0 without addresses, and without a TTL.
func TestPutCodes(t *testing.T) {
	for code := range 16 {
		a := told("a", 0)
		a.Code = code
		wantAnswerPut(t, a, top(7, answering|code, 0)+asked("a"))
		a.Addrs = []api.Addr{}
		b, e := dns.PutAnswer(a)
		wantPut(t, "PutAnswer with an empty list", b, e, top(7, answering|code, 0)+asked("a"))
		for _, wrong := range []api.Answer{told("a", 0, 1), told("a", 60, 1), told("a", 60), told("a", 1)} {
			wrong.Code = code
			if code > 0 || len(wrong.Addrs) == 0 {
				wantAnswerNotPut(t, wrong, api.ErrArg)
			}
		}
	}
	for _, code := range []int{math.MinInt, -16, -1, 16, 17, 256, 65536, math.MaxInt} {
		for _, a := range []api.Answer{told("a", 0), told("a", 60, 1)} {
			a.Code = code
			wantAnswerNotPut(t, a, api.ErrArg)
		}
	}
}

// 10.4: a TTL from 0 to MaxAge; above 0 with addresses alone.
func TestPutTTL(t *testing.T) {
	for _, ttl := range []int{0, 1, 255, 256, 65535, 65536, api.MaxAge - 1, api.MaxAge} {
		wantAnswerPut(t, told("a", ttl, 1, 2), reply("a", 2, addresses(2, ttl)))
		if ttl > 0 {
			wantAnswerNotPut(t, told("a", ttl), api.ErrArg)
		}
	}
	for _, ttl := range []int{math.MinInt, -65536, -1, api.MaxAge + 1, 1 << 31, 1 << 32, math.MaxInt} {
		wantAnswerNotPut(t, told("a", ttl, 1), api.ErrArg)
		wantAnswerNotPut(t, told("a", ttl), api.ErrArg)
	}
}

// 10.4: messages of MaxGram bytes, or the most that is below, and of more; what is no answer is told ahead of what is too long.
func TestPutLong(t *testing.T) {
	for n := 1; n <= 16; n++ {
		most := api.MaxGram - 18 - 16*n // a head, a name's two bytes beside its text, type and class, and the records
		for size := max(3, most-20); size <= min(api.MaxName, most+20); size++ {
			name := longName(size)
			a := told(name, 60, upTo(n)...)
			if size > most {
				wantAnswerNotPut(t, a, api.ErrLong)
				a.Code = 1
				wantAnswerNotPut(t, a, api.ErrArg)
				a.Code, a.TTL = 0, -1
				wantAnswerNotPut(t, a, api.ErrArg)
				continue
			}
			wantAnswerPut(t, a, reply(name, n, addresses(n, 60)))
		}
	}
	b, _ := dns.PutAnswer(told(longName(238), 60, upTo(16)...))
	if len(b) != api.MaxGram {
		t.Errorf("the longest answer has %d bytes", len(b))
	}
	wantAnswerNotPut(t, told(longName(239), 60, upTo(16)...), api.ErrLong)
	wantAnswerNotPut(t, told(longName(254), 60, upTo(16)...), api.ErrArg)
	wantAnswerNotPut(t, told(longName(253), 60, upTo(17)...), api.ErrArg)
}

// wantNoMatch wants an answer to be none to this query, and nothing else to be told.
func wantNoMatch(t *testing.T, q api.Query, b string, place int, number api.Errno) {
	t.Helper()
	a, err := dns.Match(q, []byte(b))
	what := fmt.Sprintf("Match of %v, %s", q, short(b))
	wantFault(t, what, err, wrong{place, number})
	if !sameAnswer(a, api.Answer{}) {
		t.Fatalf("%s: %+v beside a fault", what, a)
	}
}

// 10.4, 10.7: an answer matches no query of another id, another name, or both, be it with addresses or without.
func TestMatch(t *testing.T) {
	code := told("a.b", 0)
	code.Code = 3
	for _, a := range []api.Answer{told("a.b", 60, 1, 2), told("a.b", 0), code} {
		put, _ := dns.PutAnswer(a)
		b := string(put)
		if got, err := dns.Match(query(7, "a.b"), put); err != nil || !sameAnswer(got, a) {
			t.Errorf("Match of %+v: %+v, %v", a, got, err)
		}
		for _, id := range []int{0, 6, 8, 7 + 256, 7 + 65536, -7, 7 - 65536, math.MinInt, math.MaxInt} {
			wantNoMatch(t, query(id, "a.b"), b, 0, api.ErrAnswer)
			wantNoMatch(t, query(id, "a.c"), b, 0, api.ErrAnswer)
			wantNoMatch(t, query(id, ""), b, 0, api.ErrAnswer)
		}
		for _, name := range []string{"", "a", "b", "a.c", "a.b.c", "x.a.b", "b.a", "ab", "a.b.", "A.b", "a.B"} {
			wantNoMatch(t, query(7, name), b, questionAt, api.ErrAnswer)
		}
	}
}

// 10.4: the question's name in letters of any size, led to the head or not, is the query's in its form; an alias makes no other query of it.
func TestMatchForms(t *testing.T) {
	b := reply("A.b", 2, alias(toQuestion, 9, whole("c")), address(whole("c"), 60, 1))
	if a, err := dns.Match(query(7, "a.b"), []byte(b)); err != nil || !sameAnswer(a, told("a.b", 9, 1)) {
		t.Errorf("Match of %x: %+v, %v", b, a, err)
	}
	wantNoMatch(t, query(7, "A.b"), b, questionAt, api.ErrAnswer)
	wantNoMatch(t, query(7, "c"), b, questionAt, api.ErrAnswer)
}

// 10.4: of a message that Answer refuses Answer's fault is told, whatever the query is.
func TestMatchRefused(t *testing.T) {
	right := reply("a", 1, addresses(1, 60))
	for _, q := range []api.Query{query(7, "a"), query(8, "a"), query(7, "b"), query(-1, ""), {}} {
		wantNoMatch(t, q, "", 0, api.ErrShort)
		wantNoMatch(t, q, right[:len(right)-1], len(right)-1, api.ErrShort)
		wantNoMatch(t, q, right+many(api.MaxGram+1-len(right), 0), api.MaxGram, api.ErrLong)
		wantNoMatch(t, q, top(7, asking, 0)+asked("a"), 2, api.ErrKind)
		wantNoMatch(t, q, two(7)+two(answering)+two(2), 4, api.ErrKind)
		wantNoMatch(t, q, top(7, answering, 0)+"\x00", 12, api.ErrHost)
		wantNoMatch(t, q, reply("a", 1, "\x40"), 19, api.ErrLabel)
	}
}

// drawnAnswer is an answer that can be written.
func drawnAnswer(r *rand.Rand) api.Answer {
	a := api.Answer{Query: query(r.Intn(4), []string{"a", "b", "a.b", "b.a"}[r.Intn(4)])}
	if r.Intn(4) == 0 {
		a.Code = r.Intn(16)
		return a
	}
	for range r.Intn(17) {
		a.Addrs = append(a.Addrs, api.Addr{A: byte(r.Intn(256)), B: byte(r.Intn(256)), C: byte(r.Intn(256)), D: byte(r.Intn(256))})
	}
	if len(a.Addrs) > 0 {
		a.TTL = r.Intn(api.MaxAge + 1)
	}
	return a
}

// 10.5, 10.7: what is written is read as it was, and matches its own query alone.
func TestWrittenIsRead(t *testing.T) {
	r := rand.New(rand.NewSource(104))
	for range 5000 {
		a := drawnAnswer(r)
		b, e := dns.PutAnswer(a)
		if e != api.OK {
			t.Fatalf("PutAnswer of %+v: %v", a, e)
		}
		if got, err := readAnswer(t, string(b)); err != nil || !sameAnswer(got, a) {
			t.Fatalf("%+v is written as %x, and read as %+v, %v", a, b, got, err)
		}
		q := drawnAnswer(r).Query
		switch got, err := dns.Match(q, b); {
		case q == a.Query && (err != nil || !sameAnswer(got, a)):
			t.Fatalf("Match of %v, %x: %+v, %v, want %+v", q, b, got, err, a)
		case q.ID != a.ID:
			wantNoMatch(t, q, string(b), 0, api.ErrAnswer)
		case q.Name != a.Name:
			wantNoMatch(t, q, string(b), questionAt, api.ErrAnswer)
		}
		question, e := dns.PutQuestion(a.Query)
		if e != api.OK {
			t.Fatalf("PutQuestion of %v: %v", a.Query, e)
		}
		if got, err := readQuestion(t, string(question)); err != nil || got != a.Query {
			t.Fatalf("%v is written as %x, and read as %v, %v", a.Query, question, got, err)
		}
	}
}

// 10.5: what was read can be written, if it fits, and is read the same again.
func TestReadIsWritten(t *testing.T) {
	r := rand.New(rand.NewSource(105))
	for range 20000 {
		a, err := dns.Answer([]byte(drawnMessage(r)))
		if err != nil {
			continue
		}
		b, e := dns.PutAnswer(a)
		if e == api.ErrLong && len(a.Name)+18+16*len(a.Addrs) > api.MaxGram {
			continue
		}
		again, err := dns.Answer(b)
		if e != api.OK || err != nil || !sameAnswer(a, again) {
			t.Fatalf("%+v was read, is written as %x, %v, and read as %+v, %v", a, b, e, again, err)
		}
	}
}
