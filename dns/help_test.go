package dns_test

import (
	"errors"
	"fmt"
	"reflect"
	"strings"
	"testing"

	"sallyport/api"
	"sallyport/dns"
)

// asking and answering are the flags that PutQuestion and PutAnswer write; questionAt is where a message's question begins.
const (
	asking     = 0x0100
	answering  = 0x8180
	questionAt = 12
	toQuestion = "\xc0\x0c"
)

// many is a text of so many times the same byte.
func many(n int, b byte) string {
	return strings.Repeat(string([]byte{b}), n)
}

// one is a text of this byte alone, whatever byte it is.
func one(c int) string {
	return string([]byte{byte(c)})
}

func two(n int) string {
	return string([]byte{byte(n >> 8), byte(n)})
}

func four(n int) string {
	return two(n>>16) + two(n)
}

// lead is two bytes that lead to this place.
func lead(to int) string {
	return two(0xc000 + to)
}

// labels is a name's labels as they stand in a message, without an end.
func labels(name string) string {
	text := ""
	for _, label := range strings.Split(name, ".") {
		text += one(len(label)) + label
	}
	return text
}

// whole is a name as it stands in a message, in one piece.
func whole(name string) string {
	return labels(name) + "\x00"
}

// longName is a name of so many bytes, at least 3, of labels that are as long as they may be.
func longName(n int) string {
	var list []string
	for n > api.MaxLabel {
		size := min(api.MaxLabel, n-2)
		list = append(list, many(size, 'a'))
		n -= size + 1
	}
	return strings.Join(append(list, many(n, 'z')), ".")
}

// top is a head of a message with one question.
func top(id, flags, answers int) string {
	return two(id) + two(flags) + two(1) + two(answers) + two(0) + two(0)
}

// asked is a question for the address of a name.
func asked(name string) string {
	return whole(name) + two(1) + two(1)
}

// reply is an answer's message to the question 7 for this name, told to have this many records, and these.
func reply(name string, answers int, records ...string) string {
	return top(7, answering, answers) + asked(name) + strings.Join(records, "")
}

// record is one of the question's class; its name is given as it stands in a message.
func record(name string, kind, seconds int, data string) string {
	return name + two(kind) + two(1) + four(seconds) + two(len(data)) + data
}

// address is a record that tells 10.0.0.n.
func address(name string, seconds, n int) string {
	return record(name, 1, seconds, "\x0a\x00\x00"+one(n))
}

// addresses is that many of them for the question's name, from 1 on.
func addresses(n, seconds int) string {
	text := ""
	for i := range n {
		text += address(toQuestion, seconds, i+1)
	}
	return text
}

// ten is a list of the addresses 10.0.0.n.
func ten(list ...int) []api.Addr {
	var addrs []api.Addr
	for _, n := range list {
		addrs = append(addrs, api.Addr{A: 10, D: byte(n)})
	}
	return addrs
}

// upTo is the numbers from 1 to this one.
func upTo(n int) []int {
	var list []int
	for i := range n {
		list = append(list, i+1)
	}
	return list
}

func query(id int, name string) api.Query {
	return api.Query{ID: id, Name: name}
}

// told is what an answer to the question 7 tells.
func told(name string, ttl int, addrs ...int) api.Answer {
	return api.Answer{Query: query(7, name), TTL: ttl, Addrs: ten(addrs...)}
}

// sameAnswer takes a list without members for the same, be it nil or empty.
func sameAnswer(a, b api.Answer) bool {
	if len(a.Addrs) == 0 && len(b.Addrs) == 0 {
		a.Addrs, b.Addrs = nil, nil
	}
	return reflect.DeepEqual(a, b)
}

// short is bytes for a message of a test: they may be many.
func short(b string) string {
	if len(b) > 200 {
		return fmt.Sprintf("%x .. %x (%d bytes)", b[:100], b[len(b)-40:], len(b))
	}
	return fmt.Sprintf("%x", b)
}

// wantFault wants a fault of this layer with just this number at this place.
func wantFault(t *testing.T, what string, err error, w wrong) {
	t.Helper()
	f, ok := err.(*api.Fault)
	if !ok || f == nil || *f != (api.Fault{Layer: "dns", At: w.at, Err: w.number}) || !errors.Is(err, w.number) {
		t.Fatalf("%s: %v, want a fault of dns at %d: %v", what, err, w.at, w.number)
	}
}

// readName reads a name, and holds it against the model.
func readName(t *testing.T, b string, at int) (string, int, error) {
	t.Helper()
	what := fmt.Sprintf("Name of %s at %d", short(b), at)
	in := []byte(b)
	name, behind, err := dns.Name(in, at)
	if string(in) != b {
		t.Fatalf("%s changes what was handed in: %s", what, short(string(in)))
	}
	wantText, wantBehind, w := modelName(b, at)
	if w != (wrong{}) {
		wantFault(t, what, err, w)
	} else if err != nil {
		t.Fatalf("%s: %v, want %q", what, err, wantText)
	}
	if name != wantText || behind != wantBehind {
		t.Fatalf("%s: %q, %d, want %q, %d", what, name, behind, wantText, wantBehind)
	}
	return name, behind, err
}

// wantName wants a name to be read, with nothing behind it and with much.
func wantName(t *testing.T, b string, at int, name string, behind int) {
	t.Helper()
	for _, more := range []string{"", "\x00", "\x01", "\xc0", "-", b, many(600, 'x')} {
		got, end, err := readName(t, b+more, at)
		if err != nil || got != name || end != behind {
			t.Fatalf("Name of %s at %d with %d bytes behind: %q, %d, %v, want %q, %d", short(b), at, len(more), got, end, err, name, behind)
		}
	}
}

// wantNameRefused wants a name to be refused, and nothing else to be told.
func wantNameRefused(t *testing.T, b string, at, place int, number api.Errno) {
	t.Helper()
	name, behind, err := readName(t, b, at)
	what := fmt.Sprintf("Name of %s at %d", short(b), at)
	wantFault(t, what, err, wrong{place, number})
	if name != "" || behind != 0 {
		t.Fatalf("%s: %q, %d beside a fault", what, name, behind)
	}
}

// readQuestion reads a question, and holds it against the model.
func readQuestion(t *testing.T, b string) (api.Query, error) {
	t.Helper()
	what := "Question of " + short(b)
	in := []byte(b)
	q, err := dns.Question(in)
	if string(in) != b {
		t.Fatalf("%s changes what was handed in: %s", what, short(string(in)))
	}
	want, w := modelQuestion(b)
	if w != (wrong{}) {
		wantFault(t, what, err, w)
	} else if err != nil {
		t.Fatalf("%s: %v, want %v", what, err, want)
	}
	if q != want {
		t.Fatalf("%s: %v, want %v", what, q, want)
	}
	return q, err
}

// readAnswer reads an answer, and holds it against the model; Match with its own query tells the same.
func readAnswer(t *testing.T, b string) (api.Answer, error) {
	t.Helper()
	what := "Answer of " + short(b)
	in := []byte(b)
	a, err := dns.Answer(in)
	want, w := modelAnswer(b)
	matched, matchErr := dns.Match(want.Query, in)
	if string(in) != b {
		t.Fatalf("%s changes what was handed in: %s", what, short(string(in)))
	}
	if w != (wrong{}) {
		wantFault(t, what, err, w)
		wantFault(t, "Match, "+what, matchErr, w)
	} else if err != nil || matchErr != nil {
		t.Fatalf("%s: %v, Match: %v, want %v", what, err, matchErr, want)
	}
	if !sameAnswer(a, want) || !sameAnswer(matched, want) {
		t.Fatalf("%s: %+v, Match: %+v, want %+v", what, a, matched, want)
	}
	return a, err
}

// behinds are what may stand behind what a message is asked for: no records, and records.
var behinds = []string{"\x00", "\xff", "\xc0\x0c", many(100, 'x'), address(toQuestion, 1, 99), many(api.MaxGram, 0)}

// wantQuestion wants a message to be this query, whatever stands behind it.
func wantQuestion(t *testing.T, b string, want api.Query) {
	t.Helper()
	for _, behind := range append(behinds, "") {
		all := b + behind
		all = all[:min(len(all), api.MaxGram)]
		if q, err := readQuestion(t, all); err != nil || q != want {
			t.Fatalf("Question of %s: %v, %v, want %v", short(all), q, err, want)
		}
	}
}

// wantQuestionRefused wants a message to be no question.
func wantQuestionRefused(t *testing.T, b string, place int, number api.Errno) {
	t.Helper()
	q, err := readQuestion(t, b)
	wantFault(t, "Question of "+short(b), err, wrong{place, number})
	if q != (api.Query{}) {
		t.Fatalf("Question of %s: %v beside a fault", short(b), q)
	}
}

// wantAnswer wants a message to tell this, whatever stands behind its answers (10.8).
func wantAnswer(t *testing.T, b string, want api.Answer) {
	t.Helper()
	for _, behind := range append(behinds, "") {
		all := b + behind
		all = all[:min(len(all), api.MaxGram)]
		if a, err := readAnswer(t, all); err != nil || !sameAnswer(a, want) {
			t.Fatalf("Answer of %s: %+v, %v, want %+v", short(all), a, err, want)
		}
	}
}

// wantAnswerRefused wants a message to be no answer, and nothing else to be told.
func wantAnswerRefused(t *testing.T, b string, place int, number api.Errno) {
	t.Helper()
	a, err := readAnswer(t, b)
	wantFault(t, "Answer of "+short(b), err, wrong{place, number})
	if !sameAnswer(a, api.Answer{}) {
		t.Fatalf("Answer of %s: %+v beside a fault", short(b), a)
	}
}
