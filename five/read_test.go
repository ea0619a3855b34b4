package five_test

import (
	"errors"
	"fmt"
	"reflect"
	"strings"
	"testing"

	"sallyport/api"
	"sallyport/five"
)

// said is all that a reader answers: what a message says, and how many bytes it has.
type said struct {
	methods    []int
	user, pass string
	word       int
	dest       api.Dest
	size       int
}

// reader is one of the six readers, its answers being told in one form.
type reader func(b []byte) (said, error)

func readGreeting(b []byte) (said, error) {
	methods, size, err := five.Greeting(b)
	return said{methods: methods, size: size}, err
}

func readLogin(b []byte) (said, error) {
	user, pass, size, err := five.Login(b)
	return said{user: user, pass: pass, size: size}, err
}

func readRequest(b []byte) (said, error) {
	command, dest, size, err := five.Request(b)
	return said{word: command, dest: dest, size: size}, err
}

func readReply(b []byte) (said, error) {
	code, dest, size, err := five.Reply(b)
	return said{word: code, dest: dest, size: size}, err
}

func readChoice(b []byte) (said, error) {
	method, size, err := five.Choice(b)
	return said{word: method, size: size}, err
}

func readVerdict(b []byte) (said, error) {
	code, size, err := five.Verdict(b)
	return said{word: code, size: size}, err
}

// readers are all of them, by their names.
var readers = map[string]reader{
	"Greeting": readGreeting, "Login": readLogin, "Request": readRequest,
	"Reply": readReply, "Choice": readChoice, "Verdict": readVerdict,
}

// many is a text of so many times the same byte.
func many(n int, b byte) string {
	return strings.Repeat(string([]byte{b}), n)
}

// longName is a name of so many bytes, at least 3, of labels that are as long as they may be.
func longName(n int) string {
	var labels []string
	for n > api.MaxLabel {
		size := min(api.MaxLabel, n-2)
		labels = append(labels, many(size, 'a'))
		n -= size + 1
	}
	return strings.Join(append(labels, many(n, 'z')), ".")
}

// counted is a text with its number of bytes ahead of it.
func counted(s string) string {
	return string([]byte{byte(len(s))}) + s
}

func named(name string, port int) api.Dest {
	return api.Dest{Host: api.Host{Name: name}, Port: port}
}

func at(a, b, c, d byte, port int) api.Dest {
	return api.Dest{Host: api.Host{Addr: api.Addr{A: a, B: b, C: c, D: d}}, Port: port}
}

// wantRead wants a message to be read, with nothing behind it and with much.
func wantRead(t *testing.T, what string, read reader, b string, want said) {
	t.Helper()
	want.size = len(b)
	for _, behind := range []string{"", "\x00", "\x05", "\xff\x01", b, many(600, 'x')} {
		got, err := read([]byte(b + behind))
		if err != nil || !reflect.DeepEqual(got, want) {
			t.Errorf("%s of %x with %d bytes behind it: %+v, %v, want %+v", what, b, len(behind), got, err, want)
		}
	}
}

// wantFault wants a fault of this layer whose Err is the number itself.
func wantFault(t *testing.T, what string, err error, place int, number api.Errno) {
	t.Helper()
	f, ok := err.(*api.Fault)
	if !ok || f == nil || *f != (api.Fault{Layer: "five", At: place, Err: number}) {
		t.Errorf("%s: %v, want a fault of five at %d: %v", what, err, place, number)
	}
	if !errors.Is(err, number) {
		t.Errorf("%s: %v is not told to be %v", what, err, number)
	}
}

// wantNameFault wants a fault of this layer whose Err is host's fault as it came.
func wantNameFault(t *testing.T, what string, err error, place, inner int, number api.Errno) {
	t.Helper()
	f, ok := err.(*api.Fault)
	if !ok || f == nil || f.Layer != "five" || f.At != place {
		t.Errorf("%s: %v, want a fault of five at %d", what, err, place)
		return
	}
	h, ok := f.Err.(*api.Fault)
	if !ok || h == nil || *h != (api.Fault{Layer: "host", At: inner, Err: number}) {
		t.Errorf("%s: %v, want within it a fault of host at %d: %v", what, err, inner, number)
	}
	if !errors.Is(err, number) {
		t.Errorf("%s: %v is not told to be %v", what, err, number)
	}
}

// wantNothing wants zero values beside a fault.
func wantNothing(t *testing.T, what string, got said) {
	t.Helper()
	if len(got.methods) != 0 {
		t.Errorf("%s is refused and tells %v", what, got.methods)
	}
	got.methods = nil
	if !reflect.DeepEqual(got, said{}) {
		t.Errorf("%s is refused and tells %+v", what, got)
	}
}

// wantShort wants more bytes to be asked for.
func wantShort(t *testing.T, what string, read reader, b string) {
	t.Helper()
	got, err := read([]byte(b))
	what = fmt.Sprintf("%s of %x", what, b)
	wantFault(t, what, err, len(b), api.ErrShort)
	wantNothing(t, what, got)
}

// wantCuts wants a message that is cut behind each of its bytes to be too short, and not wrong.
func wantCuts(t *testing.T, what string, read reader, b string) {
	t.Helper()
	for n := range len(b) {
		wantShort(t, what, read, b[:n])
	}
}

// wantRefused wants b to be wrong at a place, and not ahead of its being there, and the same whatever stands behind.
func wantRefused(t *testing.T, what string, read reader, b string, place int, number api.Errno) {
	t.Helper()
	for _, behind := range []string{"", "\x00", "\x05\x01", many(600, 'x')} {
		got, err := read([]byte(b + behind))
		name := fmt.Sprintf("%s of %x with %d bytes behind it", what, b, len(behind))
		wantFault(t, name, err, place, number)
		wantNothing(t, name, got)
	}
}

// Example 1.
func TestFirstExample(t *testing.T) {
	methods, size, err := five.Greeting([]byte{5, 1, 0, 0xff})
	if len(methods) != 1 || methods[0] != 0 || size != 3 || err != nil {
		t.Errorf("Greeting: %v, %d, %v, want [0], 3", methods, size, err)
	}
	for b, want := range map[string]string{
		"\x05\x02\x00": "five 3: error 6",
		"\x04":         "five 0: error 70",
		"\x05\x00":     "five 1: error 72",
	} {
		methods, size, err := five.Greeting([]byte(b))
		if methods != nil || size != 0 || err == nil || err.Error() != want {
			t.Errorf("Greeting of %x: %v, %d, %v, want %s", b, methods, size, err, want)
		}
	}
}

// Example 2, and the document's second one.
func TestSecondExample(t *testing.T) {
	command, dest, size, err := five.Request([]byte{5, 1, 0, 3, 1, 0x61, 0, 0x50})
	if command != 1 || dest != named("a", 80) || size != 8 || err != nil {
		t.Errorf("Request: %d, %v, %d, %v, want 1, {a, 80}, 8", command, dest, size, err)
	}
	for b, want := range map[string]string{
		"\x05\x01\x00\x04":           "five 3: error 71",
		"\x05\x01\x00\x03\x01-\x00P": "five 5: host 0: error 61",
	} {
		command, dest, size, err := five.Request([]byte(b))
		if command != 0 || dest != (api.Dest{}) || size != 0 || err == nil || err.Error() != want {
			t.Errorf("Request of %x: %d, %v, %d, %v, want %s", b, command, dest, size, err, want)
		}
	}
}

// 7.1, 7.4: no bytes at all are too few of every message.
func TestNoBytes(t *testing.T) {
	for what, read := range readers {
		wantShort(t, what, read, "")
		got, err := read(nil)
		wantFault(t, what+" of nil", err, 0, api.ErrShort)
		wantNothing(t, what+" of nil", got)
	}
}

// 7.1: each first byte but the right one is another version, whatever stands behind it.
func TestVersions(t *testing.T) {
	for what, read := range readers {
		want := 5
		if what == "Login" || what == "Verdict" {
			want = 1
		}
		for first := range 256 {
			b := string([]byte{byte(first)})
			if first == want {
				wantShort(t, what, read, b)
				continue
			}
			wantRefused(t, what, read, b, 0, api.ErrVer)
			wantRefused(t, what, read, b+"\x00\x01\x04", 0, api.ErrVer)
		}
	}
}

// 7.1, 7.4: greetings of each number of methods; of 0 methods there is none.
func TestGreetings(t *testing.T) {
	for n := 1; n <= 255; n++ {
		want := said{methods: make([]int, n)}
		b := []byte{5, byte(n)}
		for i := range n {
			want.methods[i] = 255 - i
			b = append(b, byte(255-i))
		}
		wantRead(t, "Greeting", readGreeting, string(b), want)
		wantCuts(t, "Greeting", readGreeting, string(b))
	}
	wantRead(t, "Greeting", readGreeting, "\x05\x03\x02\x02\x00", said{methods: []int{2, 2, 0}})
	wantRefused(t, "Greeting", readGreeting, "\x05\x00", 1, api.ErrWord)
}

// 7.1, 7.4: logins of the shortest and the longest users and passwords, of any bytes.
func TestLogins(t *testing.T) {
	texts := []string{"u", "\x00", "\xff", "Ab:\n", many(254, 0), many(255, 'z')}
	for _, user := range texts {
		for _, pass := range texts {
			b := "\x01" + counted(user) + counted(pass)
			wantRead(t, "Login", readLogin, b, said{user: user, pass: pass})
			wantCuts(t, "Login", readLogin, b)
		}
		wantRefused(t, "Login", readLogin, "\x01"+counted(user)+"\x00", 2+len(user), api.ErrWord)
	}
	wantRefused(t, "Login", readLogin, "\x01\x00", 1, api.ErrWord)
	wantRefused(t, "Login", readLogin, "\x01\x00\x00", 1, api.ErrWord)
}

// 7.1, 7.4: choices and verdicts of every byte.
func TestPairs(t *testing.T) {
	for word := range 256 {
		wantRead(t, "Choice", readChoice, string([]byte{5, byte(word)}), said{word: word})
		wantRead(t, "Verdict", readVerdict, string([]byte{1, byte(word)}), said{word: word})
	}
	wantCuts(t, "Choice", readChoice, "\x05\xff")
	wantCuts(t, "Verdict", readVerdict, "\x01\x00")
}
