package five_test

import (
	"errors"
	"fmt"
	"math/rand"
	"reflect"
	"slices"
	"strings"
	"testing"

	"sallyport/api"
	"sallyport/five"
	"sallyport/host"
)

// longest is how many bytes each message has at the most.
var longest = map[string]int{
	"Greeting": 2 + 255, "Login": 2 + 255 + 1 + 255, "Choice": 2, "Verdict": 2,
	"Request": 5 + api.MaxName + 2, "Reply": 5 + api.MaxName + 2,
}

// wrongAt is the model of what is wrong with the whole of a message's beginning: where, and what; -1, if nothing is so far.
func wrongAt(what string, b []byte) (int, error) {
	first := byte(5)
	if what == "Login" || what == "Verdict" {
		first = 1
	}
	switch {
	case len(b) > 0 && b[0] != first:
		return 0, api.ErrVer
	case (what == "Greeting" || what == "Login") && len(b) > 1 && b[1] == 0:
		return 1, api.ErrWord
	case what == "Login" && len(b) > 1 && len(b) > 2+int(b[1]) && b[2+int(b[1])] == 0:
		return 2 + int(b[1]), api.ErrWord
	case what == "Request" || what == "Reply":
		return destWrongAt(b)
	}
	return -1, nil
}

func destWrongAt(b []byte) (int, error) {
	switch {
	case len(b) > 2 && b[2] != 0:
		return 2, api.ErrWord
	case len(b) > 3 && b[3] != 1 && b[3] != 3:
		return 3, api.ErrType
	case len(b) > 4 && b[3] == 3 && (b[4] == 0 || b[4] > api.MaxName):
		return 4, api.ErrWord
	case len(b) > 4 && b[3] == 3 && len(b) >= 5+int(b[4]):
		if _, err := host.ParseName(string(b[5 : 5+int(b[4])])); err != nil {
			return 5, err
		}
	}
	return -1, nil
}

// wholeOf is the model of a message that is not wrong: what it says; false, if it is not whole.
func wholeOf(what string, b []byte) (said, bool) {
	if len(b) < 2 {
		return said{}, false
	}
	s, n := said{}, int(b[1])
	switch what {
	case "Choice", "Verdict":
		s = said{word: n, size: 2}
	case "Greeting":
		s.size = 2 + n
		for i := 2; i < s.size && i < len(b); i++ {
			s.methods = append(s.methods, int(b[i]))
		}
	case "Login":
		if len(b) <= 2+n {
			return said{}, false
		}
		s.size = 3 + n + int(b[2+n])
		if len(b) >= s.size {
			s.user, s.pass = string(b[2:2+n]), string(b[3+n:s.size])
		}
	default:
		if len(b) < 5 {
			return said{}, false
		}
		s.word, s.size = n, 10
		if b[3] == 3 {
			s.size = 7 + int(b[4])
		}
		if len(b) >= s.size {
			s.dest = destOf(b[3:s.size])
		}
	}
	return s, len(b) >= s.size
}

func destOf(b []byte) api.Dest {
	end := len(b) - 2
	port := int(b[end])*256 + int(b[end+1])
	if b[0] == 3 {
		return named(strings.ToLower(string(b[2:end])), port)
	}
	return at(b[1], b[2], b[3], b[4], port)
}

// hold holds a reader against the model.
func hold(t *testing.T, what string, b []byte) {
	t.Helper()
	got, err := readers[what](b)
	text := fmt.Sprintf("%s of %x", what, b)
	var inner *api.Fault
	place, wrong := wrongAt(what, b)
	switch s, whole := wholeOf(what, b); {
	case errors.As(wrong, &inner):
		wantNameFault(t, text, err, place, inner.At, inner.Err.(api.Errno))
		wantNothing(t, text, got)
	case wrong != nil:
		wantFault(t, text, err, place, wrong.(api.Errno))
		wantNothing(t, text, got)
	case !whole:
		wantFault(t, text, err, len(b), api.ErrShort)
		wantNothing(t, text, got)
	case err != nil || !reflect.DeepEqual(got, s):
		t.Errorf("%s: %+v, %v, want %+v", text, got, err, s)
	default:
		holdAgain(t, what, s)
	}
}

// written writes again what was read.
func written(what string, s said) ([]byte, api.Errno) {
	switch what {
	case "Greeting":
		return five.PutGreeting(s.methods...)
	case "Login":
		return five.PutLogin(s.user, s.pass)
	case "Request":
		return five.PutRequest(s.word, s.dest)
	case "Reply":
		return five.PutReply(s.word, s.dest)
	case "Choice":
		return five.PutChoice(s.word)
	}
	return five.PutVerdict(s.word)
}

// holdAgain holds what was read, written and read once more, against what was read.
func holdAgain(t *testing.T, what string, s said) {
	t.Helper()
	b, e := written(what, s)
	if e != api.OK {
		t.Errorf("%s: %+v was read and is not written: %v", what, s, e)
	}
	got, err := readers[what](b)
	if err != nil || !reflect.DeepEqual(got, s) || len(b) != s.size {
		t.Errorf("%s: %+v, written as %x, is read as %+v, %v", what, s, b, got, err)
	}
}

// allOf calls use with every row of so many bytes out of an alphabet.
func allOf(alphabet string, n int, use func(b []byte)) {
	b := make([]byte, n)
	var fill func(i int)
	fill = func(i int) {
		if i == n {
			use(b)
			return
		}
		for _, c := range []byte(alphabet) {
			b[i] = c
			fill(i + 1)
		}
	}
	fill(0)
}

// 7.1, 7.3, 7.4: every short row of bytes is read, or refused, as the chapter's words say.
func TestShortRows(t *testing.T) {
	for n := range 6 {
		allOf("\x00\x01\x02\x03\x04\x05a\xff", n, func(b []byte) {
			for what := range readers {
				hold(t, what, b)
			}
		})
	}
}

// drawnMessage is a message that may well be right, with now and then a byte of it turned into another one, cut, or with bytes behind it.
func drawnMessage(r *rand.Rand) []byte {
	text := func(most int) string {
		b := make([]byte, r.Intn(most+1))
		for i := range b {
			b[i] = "aB1-.z"[r.Intn(6)]
		}
		return counted(string(b))
	}
	var b []byte
	switch r.Intn(4) {
	case 0:
		b = []byte("\x05" + text(r.Intn(256)))
	case 1:
		b = []byte("\x01" + text(r.Intn(256)) + text(r.Intn(256)))
	case 2:
		b = []byte{5, byte(r.Intn(256)), 0, 1, byte(r.Intn(256)), byte(r.Intn(256)), 0, 1, byte(r.Intn(256)), byte(r.Intn(256))}
	default:
		b = []byte("\x05\x01\x00\x03" + text(min(1<<r.Intn(9), 255)) + "\x01\xbb")
	}
	if r.Intn(4) == 0 {
		b[r.Intn(len(b))] = byte(r.Intn(256))
	}
	if r.Intn(4) == 0 {
		b = b[:r.Intn(len(b)+1)]
	}
	if r.Intn(4) == 0 {
		b = append(b, many(r.Intn(300), byte(r.Intn(256)))...)
	}
	return b
}

// 7.1, 7.3, 7.4: drawn messages are read, or refused, as the chapter's words say.
func TestModel(t *testing.T) {
	r := rand.New(rand.NewSource(70))
	for range 60000 {
		b := drawnMessage(r)
		for what := range readers {
			hold(t, what, b)
		}
	}
}

// 7.4: what is read, or what is wrong, is the same with more bytes behind; and only what is too short changes.
func TestBytesBehind(t *testing.T) {
	r := rand.New(rand.NewSource(71))
	for range 20000 {
		b := drawnMessage(r)
		more := append(slices.Clone(b), drawnMessage(r)...)
		for what, read := range readers {
			first, err := read(b)
			if errors.Is(err, api.ErrShort) {
				continue
			}
			second, again := read(more)
			if !reflect.DeepEqual(first, second) || fmt.Sprint(err) != fmt.Sprint(again) {
				t.Errorf("%s of %x: %+v, %v; of %x: %+v, %v", what, b, first, err, more, second, again)
			}
		}
	}
}

// 7.5: as many bytes as the longest message has are never too few; the longest message itself asks for all of them.
func TestNoMoreThanTheLongest(t *testing.T) {
	r := rand.New(rand.NewSource(72))
	for what, read := range readers {
		for range 20000 {
			b := append(drawnMessage(r), many(longest[what], byte(r.Intn(256)))...)[:longest[what]]
			if _, err := read(b); errors.Is(err, api.ErrShort) {
				t.Errorf("%s of %x asks for more than %d bytes", what, b, longest[what])
			}
		}
	}
	wantCuts(t, "Greeting", readGreeting, "\x05"+counted(many(255, 0)))
	wantCuts(t, "Login", readLogin, "\x01"+counted(many(255, 0))+counted(many(255, 0)))
	wantCuts(t, "Request", readRequest, "\x05\x01\x00\x03"+counted(longName(api.MaxName))+"\xff\xff")
}

// P1: every two first bytes, and every byte at each place of a right message, end in an answer as the chapter says.
func TestEveryByte(t *testing.T) {
	for _, right := range []string{"\x05\x02\x00\x02", "\x01\x01u\x02pq", "\x05\x01\x00\x01\x0a\x00\x00\x01\x00P", "\x05\x01\x00\x03\x03a.b\x00P", "\x01\x00"} {
		for place := range right {
			for c := range 256 {
				b := []byte(right)
				b[place] = byte(c)
				for what := range readers {
					hold(t, what, b)
					hold(t, what, append(b, many(600, 'a')...))
				}
			}
		}
	}
}

// Rule 4: bytes and methods that are handed in are not changed, and nothing that was told hangs on them.
func TestHandedIn(t *testing.T) {
	for what, b := range map[string]string{
		"Greeting": "\x05\x02\x00\x02", "Login": "\x01\x01u\x02pq", "Choice": "\x05\x02", "Verdict": "\x01\x02",
		"Request": "\x05\x01\x00\x03\x03A.b\x00P", "Reply": "\x05\x01\x00\x01\x0a\x00\x00\x01\x00P",
	} {
		in := []byte(b)
		want, _ := readers[what]([]byte(b))
		got, err := readers[what](in)
		if string(in) != b {
			t.Errorf("%s has changed %x into %x", what, b, in)
		}
		clear(in)
		if err != nil || !reflect.DeepEqual(got, want) {
			t.Errorf("%s: %+v, %v behind its bytes being others, want %+v", what, got, err, want)
		}
	}
	methods := []int{0, 2}
	b, _ := five.PutGreeting(methods...)
	if !slices.Equal(methods, []int{0, 2}) {
		t.Errorf("PutGreeting has changed its methods into %v", methods)
	}
	methods[0] = 9
	if string(b) != "\x05\x02\x00\x02" {
		t.Errorf("PutGreeting: %x behind its methods being others", b)
	}
}

// Rule 4: what is told is the caller's own: it may be written over, and is told anew as it was.
func TestHandedOut(t *testing.T) {
	greeting := []byte{5, 2, 0, 2}
	methods, _, _ := five.Greeting(greeting)
	methods[0] = 9
	if methods, _, _ = five.Greeting(greeting); !slices.Equal(methods, []int{0, 2}) || greeting[2] != 0 {
		t.Errorf("Greeting tells %v behind its methods being written over", methods)
	}
	puts := map[string]func() ([]byte, api.Errno){
		"PutGreeting": func() ([]byte, api.Errno) { return five.PutGreeting(0, 2) },
		"PutLogin":    func() ([]byte, api.Errno) { return five.PutLogin("u", "p") },
		"PutRequest":  func() ([]byte, api.Errno) { return five.PutRequest(1, named("a", 80)) },
		"PutReply":    func() ([]byte, api.Errno) { return five.PutReply(0, api.Dest{}) },
		"PutChoice":   func() ([]byte, api.Errno) { return five.PutChoice(2) },
		"PutVerdict":  func() ([]byte, api.Errno) { return five.PutVerdict(0) },
	}
	for what, put := range puts {
		first, _ := put()
		text := string(first)
		for i := range first {
			first[i] = 0xee
		}
		if second, _ := put(); string(second) != text {
			t.Errorf("%s: %x behind its bytes being written over, want %x", what, second, text)
		}
	}
}

// Rule 4: a fault is the caller's own: one that is written over is told anew, as it was.
func TestFaultsAreTheCallers(t *testing.T) {
	for _, b := range []string{"", "\x09", "\x05\x00\x01", "\x01\x00", "\x05\x01\x00\x04", "\x05\x01\x00\x03\x01-"} {
		for what, read := range readers {
			_, first := read([]byte(b))
			if first == nil {
				continue
			}
			text := first.Error()
			if inner, ok := first.(*api.Fault).Err.(*api.Fault); ok {
				*inner = api.Fault{Layer: "other", At: 99}
			}
			*first.(*api.Fault) = api.Fault{Layer: "other", At: 99}
			if _, second := read([]byte(b)); second == nil || second.Error() != text {
				t.Errorf("%s of %x: %v behind a fault that was written over, want %s", what, b, second, text)
			}
		}
	}
}

// P2: whatever is asked, and refused, in between: the same question has the same answer.
func TestCallsKeepNothing(t *testing.T) {
	r := rand.New(rand.NewSource(73))
	for range 2000 {
		b := drawnMessage(r)
		for what := range readers {
			hold(t, what, b)
		}
		five.PutGreeting(r.Intn(600)-200, r.Intn(600)-200)
		five.PutLogin("", string(b))
		five.PutReply(r.Intn(600)-200, named(string(b), r.Int()))
		five.PutChoice(-1)
		five.PutVerdict(256)
		wantRead(t, "Request", readRequest, "\x05\x01\x00\x03\x01A\x00P", said{word: 1, dest: named("a", 80)})
		wantShort(t, "Login", readLogin, "\x01\x02u")
	}
}
