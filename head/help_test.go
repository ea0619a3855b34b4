package head_test

import (
	"errors"
	"fmt"
	"reflect"
	"strings"
	"testing"

	"sallyport/api"
	"sallyport/head"
)

const get = "GET http://a.b/x HTTP/1.1\r\n" // a first line to which fields may be added

const ok = "HTTP/1.1 200 OK\r\n" // likewise of a reply

// said is all that a reader answers: what a head says, and how many bytes it has.
type said struct {
	request api.Request
	reply   api.Reply
	size    int
}

// reader is one of the readers, its answers being told in one form.
type reader func(b []byte) (said, error)

func readEnd(b []byte) (said, error) {
	size, err := head.End(b)
	return said{size: size}, err
}

func readRequest(b []byte) (said, error) {
	r, size, err := head.Request(b)
	return said{request: r, size: size}, err
}

func readReply(b []byte) (said, error) {
	r, size, err := head.Reply(b)
	return said{reply: r, size: size}, err
}

// readers are all of them, by their names.
var readers = map[string]reader{"End": readEnd, "Request": readRequest, "Reply": readReply}

// many is a text of so many times the same byte.
func many(n int, b byte) string {
	return strings.Repeat(string([]byte{b}), n)
}

// one is a text of this byte alone, whatever byte it is.
func one(c int) string {
	return string([]byte{byte(c)})
}

func named(name string, port int) api.Dest {
	return api.Dest{Host: api.Host{Name: name}, Port: port}
}

func at(a, b, c, d byte, port int) api.Dest {
	return api.Dest{Host: api.Host{Addr: api.Addr{A: a, B: b, C: c, D: d}}, Port: port}
}

// same holds two answers against each other; a list without members may be nil or empty.
func same(a, b said) bool {
	for _, s := range []*said{&a, &b} {
		if len(s.request.Fields) == 0 {
			s.request.Fields = nil
		}
		if len(s.reply.Fields) == 0 {
			s.reply.Fields = nil
		}
	}
	return reflect.DeepEqual(a, b)
}

// short is a text for a message of a test: heads may be long.
func short(b string) string {
	if len(b) > 200 {
		return fmt.Sprintf("%q .. (%d bytes)", b[:200], len(b))
	}
	return fmt.Sprintf("%q", b)
}

// wantFault wants a fault of this layer whose Err is the number itself.
func wantFault(t *testing.T, what string, err error, place int, number api.Errno) {
	t.Helper()
	f, ok := err.(*api.Fault)
	if !ok || f == nil || *f != (api.Fault{Layer: "head", At: place, Err: number}) {
		t.Errorf("%s: %v, want a fault of head at %d: %v", what, err, place, number)
	}
	if !errors.Is(err, number) {
		t.Errorf("%s: %v is not told to be %v", what, err, number)
	}
}

// wantRefused wants a head to be refused, with nothing told beside the fault.
func wantRefused(t *testing.T, what string, b string, place int, number api.Errno) {
	t.Helper()
	got, err := readers[what]([]byte(b))
	text := what + " of " + short(b)
	wantFault(t, text, err, place, number)
	wantNothing(t, text, got)
}

// wantHostFault wants a head to be refused by a fault of this layer whose Err is host's fault as it came, which is told by its text.
func wantHostFault(t *testing.T, b string, place int, inner string) {
	t.Helper()
	got, err := readRequest([]byte(b))
	text := "Request of " + short(b)
	wantNothing(t, text, got)
	f, ok := err.(*api.Fault)
	if !ok || f == nil || f.Layer != "head" || f.At != place {
		t.Errorf("%s: %v, want a fault of head at %d", text, err, place)
		return
	}
	h, ok := f.Err.(*api.Fault)
	if !ok || h == nil || h.Layer != "host" || h.Error() != inner {
		t.Errorf("%s: %v, want within it %s", text, err, inner)
	}
}

// wantNothing wants zero values beside a fault.
func wantNothing(t *testing.T, what string, got said) {
	t.Helper()
	if !same(got, said{}) {
		t.Errorf("%s is refused and tells %+v", what, got)
	}
}

// wantRead wants a head to be read, with nothing behind it and with much, and End to tell the same number of bytes; and each beginning of it to be too short.
func wantRead(t *testing.T, what string, b string, want said) {
	t.Helper()
	want.size = len(b)
	for _, behind := range []string{"", "\x00", "\r", "\n", "\r\n", "x: y\r\n\r\n", "\r\n\r\n", b, many(9000, 'x')} {
		got, err := readers[what]([]byte(b + behind))
		if err != nil || !same(got, want) {
			t.Errorf("%s of %s with %d bytes behind it: %+v, %v, want %+v", what, short(b), len(behind), got, err, want)
		}
		if size, err := head.End([]byte(b + behind)); err != nil || size != len(b) {
			t.Errorf("End of %s with %d bytes behind it: %d, %v, want %d", short(b), len(behind), size, err, len(b))
		}
	}
	wantCuts(t, b)
}

// wantCuts wants each beginning of a whole head to be too short, at how many bytes there are; of a long head some of them are enough.
func wantCuts(t *testing.T, b string) {
	t.Helper()
	step := max(1, len(b)/300)
	for n := 0; n < len(b); n += step {
		wantShort(t, b[:n])
	}
	for n := max(0, len(b)-5); n < len(b); n++ {
		wantShort(t, b[:n])
	}
}

func wantShort(t *testing.T, b string) {
	t.Helper()
	for what := range readers {
		wantRefused(t, what, b, len(b), api.ErrShort)
	}
}

// wantRequest wants a request with this line and these fields' lines, each with its end, to be read.
func wantRequest(t *testing.T, b string, want api.Request) {
	t.Helper()
	wantRead(t, "Request", b, said{request: want})
}

func wantReply(t *testing.T, b string, want api.Reply) {
	t.Helper()
	wantRead(t, "Reply", b, said{reply: want})
}

// both calls hold for either kind of head, with a first line that is right: how fields are read does not hang on it.
func both(hold func(what, first string)) {
	hold("Request", get)
	hold("Reply", ok)
}

// withFields is what is told of a head of those that both hands on.
func withFields(what string, fields ...api.Field) said {
	if what == "Request" {
		return said{request: api.Request{Method: "GET", Dest: named("a.b", 80), Path: "/x", Fields: fields}}
	}
	return said{reply: api.Reply{Status: 200, Reason: "OK", Fields: fields}}
}
