package dns_test

import (
	"math/rand"
	"testing"

	"sallyport/api"
	"sallyport/dns"
)

// Rule 4: nothing that was told hangs on the bytes that were handed in.
func TestHandedIn(t *testing.T) {
	b := []byte(reply("A.b", 2, addresses(2, 60)))
	a, _ := dns.Answer(b)
	m, _ := dns.Match(query(7, "a.b"), b)
	name, behind, _ := dns.Name(b, questionAt)
	question := []byte(top(7, asking, 0) + asked("A.b"))
	q, _ := dns.Question(question)
	clear(b)
	clear(question)
	if want := told("a.b", 60, 1, 2); !sameAnswer(a, want) || !sameAnswer(m, want) {
		t.Errorf("Answer, Match: %+v, %+v behind their bytes being others, want %+v", a, m, want)
	}
	if name != "a.b" || behind != questionAt+5 || q != query(7, "a.b") {
		t.Errorf("Name, Question: %q, %d, %v behind their bytes being others", name, behind, q)
	}
	list := ten(1, 2)
	put, _ := dns.PutAnswer(api.Answer{Query: query(7, "a"), TTL: 60, Addrs: list})
	clear(list)
	if want := reply("a", 2, addresses(2, 60)); string(put) != want {
		t.Errorf("PutAnswer: %x behind its addresses being others, want %x", put, want)
	}
}

// Rule 4: what is told is the caller's own: it may be written over, and is told anew as it was.
func TestHandedOut(t *testing.T) {
	b := reply("a", 2, addresses(2, 60))
	for range 2 {
		a, err := dns.Answer([]byte(b))
		if err != nil || !sameAnswer(a, told("a", 60, 1, 2)) {
			t.Errorf("Answer of %x: %+v, %v", b, a, err)
		}
		clear(a.Addrs)
		put, e := dns.PutAnswer(told("a", 60, 1, 2))
		wantPut(t, "PutAnswer", put, e, b)
		clear(put)
		put, e = dns.PutQuestion(query(7, "a"))
		wantPut(t, "PutQuestion", put, e, top(7, asking, 0)+asked("a"))
		clear(put)
	}
}

// Rule 4: a fault is the caller's own: one that is written over is told anew, as it was.
func TestFaultsAreTheCallers(t *testing.T) {
	for _, b := range []string{"", "\x00\x07\xff\xff", top(7, answering, 0) + "\x00", reply("a", 1), reply("a", 1, "\x40"), reply("a", 0)} {
		asks := map[string]func() error{
			"Answer":   func() error { _, err := dns.Answer([]byte(b)); return err },
			"Question": func() error { _, err := dns.Question([]byte(b)); return err },
			"Match":    func() error { _, err := dns.Match(query(8, "a"), []byte(b)); return err },
			"Name":     func() error { _, _, err := dns.Name([]byte(b), 0); return err },
		}
		for what, ask := range asks {
			first := ask()
			if first == nil {
				continue
			}
			text := first.Error()
			*first.(*api.Fault) = api.Fault{Layer: "other", At: 99}
			if second := ask(); second == nil || second.Error() != text {
				t.Errorf("%s of %x: %v behind a fault that was written over, want %s", what, b, second, text)
			}
		}
	}
}

// A call that finds nothing wrong answers no error at all, not an empty fault.
func TestNoFault(t *testing.T) {
	if _, err := dns.Question([]byte(top(7, asking, 0) + asked("a"))); err != nil {
		t.Errorf("Question: %v", err)
	}
	if _, err := dns.Answer([]byte(reply("a", 0))); err != nil {
		t.Errorf("Answer: %v", err)
	}
	if _, err := dns.Match(query(7, "a"), []byte(reply("a", 0))); err != nil {
		t.Errorf("Match: %v", err)
	}
	if _, _, err := dns.Name([]byte("\x01a\x00"), 0); err != nil {
		t.Errorf("Name: %v", err)
	}
}

// P2: whatever is asked, and refused, in between: the same question has the same answer.
func TestCallsKeepNothing(t *testing.T) {
	r := rand.New(rand.NewSource(106))
	for range 2000 {
		b := drawnMessage(r)
		hold(t, b)
		dns.Match(query(r.Intn(9), "a"), []byte(b))
		dns.Name([]byte(b), r.Intn(99)-9)
		dns.PutQuestion(query(r.Int(), b))
		dns.PutAnswer(api.Answer{Query: query(1, "a"), Code: r.Intn(40) - 20, TTL: r.Intn(9) - 4, Addrs: ten(upTo(r.Intn(20))...)})
		wantAnswer(t, reply("a", 1, addresses(1, 60)), told("a", 60, 1))
		wantNameRefused(t, "\x01a\xc0\x00", 0, 2, api.ErrLoop)
		wantQuestionPut(t, query(7, "a"), top(7, asking, 0)+asked("a"))
	}
}
