package chunk_test

import (
	"errors"
	"fmt"
	"regexp"
	"strconv"
	"strings"
	"testing"

	"sallyport/api"
	"sallyport/chunk"
)

const end = "0\r\n\r\n"

// said is what is to be told of a chunked body as far as it came: the body, how many bytes of the chunked body there are (what is wrong stands right behind them), whether its end is there, and what is wrong.
type said struct {
	body  string
	used  int
	done  bool
	wrong api.Errno
}

var (
	sizeWord  = regexp.MustCompile(`^(0|[1-9a-fA-F][0-9a-fA-F]{0,6})`)
	digitWord = regexp.MustCompile(`^[0-9a-fA-F]`)
)

// model goes through a whole text, knowing nothing of pieces.
type model struct {
	text  string
	at    int
	wrong api.Errno
}

// must goes over these bytes as far as they are there; it tells whether all of them were.
func (m *model) must(bytes string) bool {
	for _, c := range []byte(bytes) {
		if m.at == len(m.text) {
			return false
		}
		if m.text[m.at] != c {
			m.wrong = api.ErrEnd
			return false
		}
		m.at++
	}
	return true
}

// size reads a size and what is behind it; it tells false where the text is over, or wrong.
func (m *model) size(room int) (int, bool) {
	digits := sizeWord.FindString(m.text[m.at:])
	m.at += len(digits)
	behind := m.text[m.at:]
	size, _ := strconv.ParseInt(digits, 16, 64)
	switch {
	case behind == "":
		return 0, false
	case digits == "", digitWord.MatchString(behind), behind[0] == '\r' && int(size) > room:
		m.wrong = api.ErrSize
		return 0, false
	}
	return int(size), m.must("\r\n")
}

func modelOf(text string) said {
	m := model{text: text}
	var body strings.Builder
	done := false
	for {
		size, whole := m.size(chunk.MaxBody - body.Len())
		if !whole {
			break
		}
		if size == 0 {
			done = m.must("\r\n")
			break
		}
		piece := text[m.at:min(m.at+size, len(text))]
		body.WriteString(piece)
		m.at += len(piece)
		if len(piece) < size || !m.must("\r\n") {
			break
		}
	}
	return said{body: body.String(), used: m.at, done: done, wrong: m.wrong}
}

// short is a text for a message of a test: bodies may be long.
func short(s string) string {
	if len(s) > 60 {
		return fmt.Sprintf("%q .. (%d bytes)", s[:60], len(s))
	}
	return fmt.Sprintf("%q", s)
}

func (s said) String() string {
	return fmt.Sprintf("%s, %d bytes, done %v, %v", short(s.body), s.used, s.done, s.wrong)
}

// many is a text of so many times the same byte.
func many(n int, b byte) string {
	return strings.Repeat(string([]byte{b}), n)
}

// one is a text of this byte alone, whatever byte it is.
func one(c int) string {
	return string([]byte{byte(c)})
}

// wantFault wants a fault of this layer with just this number at this place; OK: none at all.
func wantFault(t *testing.T, what string, err error, place int, number api.Errno) {
	t.Helper()
	if number == api.OK {
		if err != nil {
			t.Fatalf("%s: %v, want no fault", what, err)
		}
		return
	}
	f, ok := err.(*api.Fault)
	if !ok || f == nil || *f != (api.Fault{Layer: "chunk", At: place, Err: number}) || !errors.Is(err, number) {
		t.Fatalf("%s: %v, want a fault of chunk at %d: %v", what, err, place, number)
	}
}

// wantState wants Done and Read to tell what they must, of a reader to which so much came.
func wantState(t *testing.T, what string, r *chunk.Reader, want said) {
	t.Helper()
	if used, read := r.Read(); used != want.used || read != len(want.body) {
		t.Fatalf("%s: Read tells %d, %d, want %d, %d", what, used, read, want.used, len(want.body))
	}
	if r.Done() != want.done {
		t.Fatalf("%s: Done tells %v, want %v", what, r.Done(), want.done)
	}
}

// step hands a piece on to a reader, and holds what it tells against what is to be told in all, before the piece and behind it.
func step(t *testing.T, r *chunk.Reader, piece string, before, behind said) {
	t.Helper()
	what := fmt.Sprintf("Add of %s behind %v", short(piece), before)
	b := []byte(piece)
	body, used, err := r.Add(b)
	if string(b) != piece {
		t.Fatalf("%s changes what was handed in: %s", what, short(string(b)))
	}
	wantFault(t, what, err, behind.used, behind.wrong)
	if want := behind.body[len(before.body):]; string(body) != want {
		t.Fatalf("%s: body %s, want %s", what, short(string(body)), short(want))
	}
	if used != behind.used-before.used {
		t.Fatalf("%s: %d bytes, want %d", what, used, behind.used-before.used)
	}
	if len(body) > used || used > len(piece) {
		t.Fatalf("%s: more is read than came: %d, %d", what, len(body), used)
	}
	wantState(t, what, r, behind)
}

// goOn hands pieces on to a reader to which came was handed already.
func goOn(t *testing.T, r *chunk.Reader, came string, pieces ...string) {
	t.Helper()
	before := modelOf(came)
	for _, piece := range pieces {
		came += piece
		behind := modelOf(came)
		step(t, r, piece, before, behind)
		before = behind
	}
}

// cut is a text in pieces of this many bytes each, the last one perhaps of fewer.
func cut(text string, size int) []string {
	var pieces []string
	for len(text) > size {
		pieces = append(pieces, text[:size])
		text = text[size:]
	}
	return append(pieces, text)
}

// apart is the same pieces with empty ones ahead of them, between them and behind them.
func apart(pieces []string) []string {
	list := []string{""}
	for _, piece := range pieces {
		list = append(list, piece, "", "")
	}
	return list
}

// isLong tells which texts are cut at some of their places only: all of them would take too long.
func isLong(text string) bool {
	return len(text) > 1000
}

// wantCuts wants a text to be told alike however it is cut: behind each of its bytes, into pieces of a few bytes, and with empty ones between.
func wantCuts(t *testing.T, text string) {
	t.Helper()
	if isLong(text) {
		wantSomeCuts(t, text)
		return
	}
	for i := range len(text) + 1 {
		goOn(t, chunk.New(), "", text[:i], text[i:])
		goOn(t, chunk.New(), "", "", text[:i], "", text[i:], "")
	}
	for size := 1; size <= 5; size++ {
		goOn(t, chunk.New(), "", cut(text, size)...)
		goOn(t, chunk.New(), "", apart(cut(text, size))...)
	}
}

// wantSomeCuts cuts once near both ends, into a few pieces, and into bytes.
func wantSomeCuts(t *testing.T, text string) {
	t.Helper()
	for i := range 7 {
		goOn(t, chunk.New(), "", text[:i+1], text[i+1:])
		goOn(t, chunk.New(), "", text[:len(text)-i], text[len(text)-i:])
	}
	goOn(t, chunk.New(), "", apart(cut(text, len(text)/3))...)
	wantByBytes(t, text)
}

// wantByBytes hands a text on byte by byte, with empty pieces between. As the model goes through the text but once, a long one may be handed on so.
func wantByBytes(t *testing.T, text string) {
	t.Helper()
	want := modelOf(text)
	r := chunk.New()
	var got []byte
	for i := range len(text) {
		if body, used, err := r.Add(nil); i <= want.used && (len(body) != 0 || used != 0 || err != nil) {
			t.Fatalf("Add of nothing behind %d bytes of %s: %q, %d, %v", i, short(text), body, used, err)
		}
		body, used, err := r.Add([]byte{text[i]})
		got = append(got, body...)
		number, more := api.OK, 1
		if i >= want.used {
			number, more = want.wrong, 0
		}
		wantFault(t, "Add of one byte", err, want.used, number)
		if used != more || len(body) > used {
			t.Fatalf("Add of byte %d of %s: %q, %d, want %d", i, short(text), body, used, more)
		}
	}
	if string(got) != want.body {
		t.Fatalf("%s by bytes: %s, want %v", short(text), short(string(got)), want)
	}
	wantState(t, "by bytes", r, want)
}

// behinds are what may stand behind a body, or behind what is wrong.
var behinds = []string{"x", "\x00", "0", "\r", "\n", "\r\n", end, "1\r\ny\r\n" + end, many(30, 'z')}

// wantRead wants just this of a text, however it is cut, and (if it has an end, or a fault) whatever stands behind it, in the same piece or in next ones.
func wantRead(t *testing.T, text string, want said) {
	t.Helper()
	if got := modelOf(text); got != want {
		t.Fatalf("the model of %s: %v, want %v", short(text), got, want)
	}
	step(t, chunk.New(), text, said{}, want)
	wantCuts(t, text)
	if !want.done && want.wrong == api.OK {
		return
	}
	for _, behind := range behinds {
		r := chunk.New()
		step(t, r, text+behind, said{}, want)
		step(t, r, behind, want, want)
		r = chunk.New()
		step(t, r, text, said{}, want)
		for _, piece := range []string{behind, "", text, behind} {
			step(t, r, piece, want, want)
		}
		if !isLong(text) {
			wantCuts(t, text+behind)
		}
	}
}

// wantBody wants a text that is a whole chunked body to be read as this.
func wantBody(t *testing.T, text, body string) {
	t.Helper()
	wantRead(t, text, said{body: body, used: len(text), done: true})
}

// wantMore wants a text to be a beginning of a chunked body.
func wantMore(t *testing.T, text, body string) {
	t.Helper()
	wantRead(t, text, said{body: body, used: len(text)})
}

// wantWrong wants a text's last byte to be wrong.
func wantWrong(t *testing.T, text, body string, number api.Errno) {
	t.Helper()
	wantRead(t, text, said{body: body, used: len(text) - 1, wrong: number})
}
