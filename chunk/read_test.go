package chunk_test

import (
	"strings"
	"testing"

	"sallyport/api"
	"sallyport/chunk"
)

// 9.1, the chapter's example.
func TestExample(t *testing.T) {
	r := chunk.New()
	body, used, err := r.Add([]byte("3\r\nabc\r\n0\r\n\r\nx"))
	if string(body) != "abc" || used != 13 || err != nil || !r.Done() {
		t.Errorf("%q, %d, %v, done %v, want abc, 13 bytes, done", body, used, err, r.Done())
	}
	if came, read := r.Read(); came != 13 || read != 3 {
		t.Errorf("Read: %d, %d, want 13, 3", came, read)
	}
	r = chunk.New()
	body, used, err = r.Add([]byte("03\r\nabc\r\n0\r\n\r\n"))
	wantFault(t, "03 ..", err, 1, api.ErrSize)
	if err.Error() != "chunk 1: error 90" || len(body) != 0 || used != 1 || r.Done() {
		t.Errorf("%q, %d, %v, done %v, want nothing, 1 byte, chunk 1: error 90", body, used, err, r.Done())
	}
	r = chunk.New()
	body, used, err = r.Add([]byte("3\r\nabcd"))
	wantFault(t, "3 CR LF abcd", err, 6, api.ErrEnd)
	if err.Error() != "chunk 6: error 91" || string(body) != "abc" || used != 6 || r.Done() {
		t.Errorf("%q, %d, %v, done %v, want abc, 6 bytes, chunk 6: error 91", body, used, err, r.Done())
	}
	wantBody(t, "3\r\nabc\r\n0\r\n\r\n", "abc")
	wantWrong(t, "03", "", api.ErrSize)
	wantWrong(t, "3\r\nabcd", "abc", api.ErrEnd)
}

// 9.1: no bytes at all change nothing, however often they come.
func TestNoBytes(t *testing.T) {
	r := chunk.New()
	wantState(t, "a new reader", r, said{})
	for range 3 {
		for _, b := range [][]byte{nil, {}} {
			body, used, err := r.Add(b)
			if len(body) != 0 || used != 0 || err != nil {
				t.Errorf("Add of no bytes: %q, %d, %v", body, used, err)
			}
			wantState(t, "behind no bytes", r, said{})
		}
	}
	goOn(t, r, "", "1\r\nx\r\n0\r\n\r\n")
	wantMore(t, "", "")
}

// 9.1: bodies that are right, whatever the bytes of their chunks are.
func TestBodies(t *testing.T) {
	wantBody(t, end, "")
	wantBody(t, "1\r\nx\r\n"+end, "x")
	wantBody(t, "1\r\nx\r\n1\r\ny\r\n2\r\nzz\r\n"+end, "xyzz")
	wantBody(t, "2\r\n\r\n\r\n"+end, "\r\n")
	wantBody(t, "5\r\n"+end+"\r\n"+end, end)
	wantBody(t, "1\r\n\r\r\n1\r\n\n\r\n1\r\n0\r\n"+end, "\r\n0")
	wantBody(t, "9\r\n123456789\r\na\r\n0123456789\r\n"+end, "1234567890123456789")
	wantBody(t, "10\r\n"+many(16, 'q')+"\r\n"+end, many(16, 'q'))
	var all strings.Builder
	for c := range 256 {
		all.WriteByte(byte(c))
	}
	wantBody(t, "100\r\n"+all.String()+"\r\n"+end, all.String())
	for c := range 256 {
		wantBody(t, "1\r\n"+one(c)+"\r\n"+end, one(c))
	}
}

// 9.1: each beginning of a body is one, with those of its bytes that came.
func TestBeginnings(t *testing.T) {
	wantMore(t, "3", "")
	wantMore(t, "3\r", "")
	wantMore(t, "3\r\n", "")
	wantMore(t, "3\r\na", "a")
	wantMore(t, "3\r\nabc", "abc")
	wantMore(t, "3\r\nabc\r", "abc")
	wantMore(t, "3\r\nabc\r\n", "abc")
	wantMore(t, "3\r\nabc\r\n0", "abc")
	wantMore(t, "3\r\nabc\r\n0\r", "abc")
	wantMore(t, "3\r\nabc\r\n0\r\n", "abc")
	wantMore(t, "3\r\nabc\r\n0\r\n\r", "abc")
	wantBody(t, "3\r\nabc\r\n0\r\n\r\n", "abc")
}

// 9.1: a size is told by digits to the base 16, in letters of any size.
func TestSizes(t *testing.T) {
	for size, digits := range map[int][]string{
		1: {"1"}, 9: {"9"}, 10: {"a", "A"}, 11: {"b", "B"}, 12: {"c", "C"}, 13: {"d", "D"}, 14: {"e", "E"}, 15: {"f", "F"},
		16: {"10"}, 0x1f: {"1f", "1F"}, 0xa0: {"a0", "A0"}, 0xab: {"ab", "AB", "aB", "Ab"}, 0xff: {"ff", "FF", "fF", "Ff"},
		0x9a9: {"9a9", "9A9"}, 0xabc: {"abc", "ABC", "aBc", "AbC"}, 0xbeef: {"beef", "BEEF", "bEeF"}, 0x10000: {"10000"},
	} {
		for _, word := range digits {
			body := many(size, 'b')
			wantBody(t, word+"\r\n"+body+"\r\n"+end, body)
			wantWrong(t, word+"\r\n"+body+"b", body, api.ErrEnd)
			wantWrong(t, word+"\r\n"+body[1:]+"\r\n", body[1:]+"\r", api.ErrEnd)
		}
	}
}

// 9.1: sizes of five, six and seven digits that are within the bound, or beyond it: these are wrong at the CR.
func TestLongSizes(t *testing.T) {
	for _, word := range []string{"fffff", "FFFFF", "fFfFf", "100000"} {
		size := chunk.MaxBody - 1
		if word == "100000" {
			size = chunk.MaxBody
		}
		body := many(size, 'b')
		wantMore(t, word+"\r\n", "")
		wantBody(t, word+"\r\n"+body+"\r\n"+end, body)
	}
	for _, word := range []string{"100001", "10000a", "10000F", "abcdef", "ABCDEF", "aBcDeF", "ffffff", "1000000", "abcdef0", "ABCDEF0", "AbCdEf0", "fffffff", "FFFFFFF", "9999999"} {
		wantMore(t, word, "")
		wantWrong(t, word+"\r", "", api.ErrSize)
		wantWrong(t, word+"\n", "", api.ErrEnd)
		wantWrong(t, word+";", "", api.ErrEnd)
		wantWrong(t, "1\r\nx\r\n"+word+"\r", "x", api.ErrSize)
	}
}

// 9.1: an eighth digit is wrong, whatever the others are and whatever stands behind it.
func TestEighthDigit(t *testing.T) {
	for _, word := range []string{"1000000", "abcdef0", "ABCDEF0", "AbCdEf0", "fffffff", "1234567"} {
		wantMore(t, word, "")
		for _, c := range "0123456789abcdefABCDEF" {
			wantWrong(t, word+string(c), "", api.ErrSize)
		}
		wantWrong(t, "2\r\nab\r\n"+word+"0", "ab", api.ErrSize)
	}
}

// 9.1: nothing may stand behind a 0 at the front, neither another 0 nor a size.
func TestZeroAhead(t *testing.T) {
	for _, c := range "0123456789abcdefABCDEF" {
		wantWrong(t, "0"+string(c), "", api.ErrSize)
		wantWrong(t, "1\r\nx\r\n0"+string(c), "x", api.ErrSize)
	}
}

// 9.1: extensions and trailing fields are not taken.
func TestNotTaken(t *testing.T) {
	wantRead(t, "3;a=b\r\nabc\r\n"+end, said{used: 1, wrong: api.ErrEnd})
	wantRead(t, "3 ;a\r\nabc\r\n"+end, said{used: 1, wrong: api.ErrEnd})
	wantRead(t, "3 \r\nabc\r\n"+end, said{used: 1, wrong: api.ErrEnd})
	wantRead(t, "3\nabc\n0\n\n", said{used: 1, wrong: api.ErrEnd})
	wantRead(t, "1\r\nx\r\n0;a\r\n\r\n", said{body: "x", used: 7, wrong: api.ErrEnd})
	wantRead(t, "0\r\nx: y\r\n\r\n", said{used: 3, wrong: api.ErrEnd})
	wantRead(t, "1\r\nx\r\n0\r\nx: y\r\n\r\n", said{body: "x", used: 9, wrong: api.ErrEnd})
	wantRead(t, "0x3\r\nabc\r\n"+end, said{used: 1, wrong: api.ErrEnd})
	wantRead(t, "+3\r\nabc\r\n"+end, said{wrong: api.ErrSize})
	wantRead(t, "-1\r\n"+end, said{wrong: api.ErrSize})
	wantRead(t, " 3\r\nabc\r\n"+end, said{wrong: api.ErrSize})
	wantRead(t, "\r\n"+end, said{wrong: api.ErrSize})
	wantRead(t, "1_0\r\n", said{used: 1, wrong: api.ErrEnd})
}

// place is where a byte must be: behind what, which bytes are right there, and which are wrong otherwise than by ErrEnd.
type place struct {
	ahead, body string
	right       string
	sizes       string
}

const hexDigits = "0123456789abcdefABCDEF"

// others is all bytes that are not in the list.
func others(list string) string {
	var all strings.Builder
	for c := range 256 {
		if !strings.Contains(list, one(c)) {
			all.WriteByte(byte(c))
		}
	}
	return all.String()
}

// 9.1: each byte at each place, at the beginning and behind chunks that are whole.
func TestEachByte(t *testing.T) {
	places := []place{
		{ahead: "", right: hexDigits, sizes: others(hexDigits)},
		{ahead: "3", right: hexDigits + "\r"},
		{ahead: "f", right: hexDigits + "\r"},
		{ahead: "3a", right: hexDigits + "\r"},
		{ahead: "fFf", right: hexDigits + "\r"},
		{ahead: "9999", right: hexDigits + "\r"},
		{ahead: "e0000", right: hexDigits + "\r"},
		{ahead: "f00000", right: hexDigits, sizes: "\r"},
		{ahead: "1234567", sizes: hexDigits + "\r"},
		{ahead: "0", right: "\r", sizes: hexDigits},
		{ahead: "3\r", right: "\n"},
		{ahead: "3a\r", right: "\n"},
		{ahead: "3\r\nabc", body: "abc", right: "\r"},
		{ahead: "3\r\nabc\r", body: "abc", right: "\n"},
		{ahead: "0\r", right: "\n"},
		{ahead: "0\r\n", right: "\r"},
		{ahead: "0\r\n\r", right: "\n"},
	}
	for _, p := range places {
		for _, chunks := range []place{{}, {ahead: "1\r\nx\r\n", body: "x"}, {ahead: "A\r\n0123456789\r\n2\r\n\r\n\r\n", body: "0123456789\r\n"}} {
			ahead, body := chunks.ahead+p.ahead, chunks.body+p.body
			for c := range 256 {
				wantByte(t, p, ahead, body, one(c))
			}
		}
	}
}

func wantByte(t *testing.T, p place, ahead, body, c string) {
	t.Helper()
	text := ahead + c
	want := said{body: body, used: len(ahead), wrong: api.ErrEnd}
	switch {
	case strings.Contains(p.right, c):
		want = said{body: body, used: len(text), done: strings.HasSuffix(text, end)}
	case strings.Contains(p.sizes, c):
		want.wrong = api.ErrSize
	}
	if got := modelOf(text); got != want {
		t.Fatalf("the model of %q: %v, want %v", text, got, want)
	}
	step(t, chunk.New(), text, said{}, want)
	goOn(t, chunk.New(), "", ahead, c, "x")
	goOn(t, chunk.New(), "", cut(text+"\r\n", 1)...)
}

// 9.1: a body may have just MaxBody bytes, in one chunk or in several; the size that makes it longer is wrong at its CR.
func TestMaxBody(t *testing.T) {
	whole := many(chunk.MaxBody, 'm')
	first := "100000\r\n" + whole + "\r\n"
	wantBody(t, first+end, whole)
	wantWrong(t, "100001\r", "", api.ErrSize)
	wantWrong(t, first+"1\r", whole, api.ErrSize)
	wantWrong(t, first+"1;", whole, api.ErrEnd)
	wantMore(t, first+"1", whole)

	less := whole[1:]
	first = "fffff\r\n" + less + "\r\n"
	wantBody(t, first+end, less)
	wantBody(t, first+"1\r\nm\r\n"+end, whole)
	wantWrong(t, first+"1\r\nm\r\n1\r", whole, api.ErrSize)
	wantWrong(t, first+"2\r", less, api.ErrSize)
	wantWrong(t, first+"100000\r", less, api.ErrSize)
	wantMore(t, first+"2", less)

	half := whole[:chunk.MaxBody/2]
	first = "80000\r\n" + half + "\r\n"
	wantBody(t, first+first+end, whole)
	wantWrong(t, first+"80001\r", half, api.ErrSize)
	wantWrong(t, first+first+"1\r", whole, api.ErrSize)
	wantBody(t, "1\r\nm\r\n"+"fffff\r\n"+less+"\r\n"+end, whole)
	wantWrong(t, "1\r\nm\r\n100000\r", "m", api.ErrSize)
}

// 9.1: so is one of a chunk a byte.
func TestMaxBodyByteByByte(t *testing.T) {
	chunks := strings.Repeat("1\r\nm\r\n", chunk.MaxBody)
	whole := many(chunk.MaxBody, 'm')
	for _, last := range []string{end, "1\r", "1", "0\r\n"} {
		goOn(t, chunk.New(), "", chunks+last)
		goOn(t, chunk.New(), "", chunks, last)
	}
	step(t, chunk.New(), chunks+end, said{}, said{body: whole, used: 6*chunk.MaxBody + 5, done: true})
	step(t, chunk.New(), chunks+"1\r\n", said{}, said{body: whole, used: 6*chunk.MaxBody + 1, wrong: api.ErrSize})
}
