package chunk_test

import (
	"bytes"
	"math"
	"math/rand"
	"strconv"
	"strings"
	"testing"

	"sallyport/api"
	"sallyport/chunk"
)

// wantPut wants a body to be written as this, and read as it was, whatever stands behind it.
func wantPut(t *testing.T, body string, size int, want string) {
	t.Helper()
	b := []byte(body)
	text, e := chunk.Put(b, size)
	if e != api.OK || string(text) != want {
		t.Errorf("Put of %s by %d: %s, %v, want %s", short(body), size, short(string(text)), e, short(want))
	}
	if string(b) != body {
		t.Errorf("Put of %s by %d changes what was handed in", short(body), size)
	}
	wantBody(t, want, body)
}

// 9.2: the number of bytes below, at and above the size, and several times it.
func TestPut(t *testing.T) {
	wantPut(t, "", 1, end)
	wantPut(t, "", api.MaxBytes, end)
	wantPut(t, "a", 1, "1\r\na\r\n"+end)
	wantPut(t, "ab", 1, "1\r\na\r\n1\r\nb\r\n"+end)
	wantPut(t, "ab", 2, "2\r\nab\r\n"+end)
	wantPut(t, "ab", 3, "2\r\nab\r\n"+end)
	wantPut(t, "ab", api.MaxBytes, "2\r\nab\r\n"+end)
	wantPut(t, "abc", 2, "2\r\nab\r\n1\r\nc\r\n"+end)
	wantPut(t, "abcd", 2, "2\r\nab\r\n2\r\ncd\r\n"+end)
	wantPut(t, "abcde", 2, "2\r\nab\r\n2\r\ncd\r\n1\r\ne\r\n"+end)
	wantPut(t, "abcdefgh", 3, "3\r\nabc\r\n3\r\ndef\r\n2\r\ngh\r\n"+end)
	wantPut(t, end, 2, "2\r\n0\r\r\n2\r\n\n\r\r\n1\r\n\n\r\n"+end)
	if text, e := chunk.Put(nil, 1); e != api.OK || string(text) != end {
		t.Errorf("Put of nil: %q, %v", text, e)
	}
}

// 9.2: sizes are written to the base 16, in small letters.
func TestPutSizes(t *testing.T) {
	for size, word := range map[int]string{9: "9", 10: "a", 15: "f", 16: "10", 26: "1a", 171: "ab", 255: "ff", 256: "100", 0xbeef: "beef", 0xcdef: "cdef", 65535: "ffff", 65536: "10000"} {
		body := many(size, 's')
		wantPut(t, body, size, word+"\r\n"+body+"\r\n"+end)
		wantPut(t, body, api.MaxBytes, word+"\r\n"+body+"\r\n"+end)
		wantPut(t, body+"t", size, word+"\r\n"+body+"\r\n1\r\nt\r\n"+end)
		wantPut(t, body+body, size, word+"\r\n"+body+"\r\n"+word+"\r\n"+body+"\r\n"+end)
	}
}

// 9.2: a size is from 1 to MaxBytes, whatever the bytes are.
func TestPutRefused(t *testing.T) {
	for _, size := range []int{math.MinInt, -api.MaxBytes, -1, 0, api.MaxBytes + 1, chunk.MaxBody, math.MaxInt} {
		for _, b := range [][]byte{nil, {}, []byte("a"), []byte(many(api.MaxBytes+1, 'a'))} {
			if text, e := chunk.Put(b, size); e != api.ErrArg || len(text) != 0 {
				t.Errorf("Put of %d bytes by %d: %d bytes, %v, want ErrArg alone", len(b), size, len(text), e)
			}
		}
	}
}

// 9.2: the bytes that are written may be of any number; of more than MaxBody a reader takes those that are within the bound.
func TestPutMuch(t *testing.T) {
	whole := many(chunk.MaxBody, 'w')
	piece := "10000\r\n" + many(api.MaxBytes, 'w') + "\r\n"
	wantPut(t, whole, api.MaxBytes, strings.Repeat(piece, 16)+end)
	text, e := chunk.Put([]byte(whole+"w"), api.MaxBytes)
	if want := strings.Repeat(piece, 16) + "1\r\nw\r\n" + end; e != api.OK || string(text) != want {
		t.Errorf("Put of MaxBody + 1 bytes: %s, %v", short(string(text)), e)
	}
	step(t, chunk.New(), string(text), said{}, said{body: whole, used: 16*len(piece) + 1, wrong: api.ErrSize})
}

// Rule 4: what is written is the caller's own.
func TestPutIsApart(t *testing.T) {
	b := append(make([]byte, 0, 100), "abcde"...)
	for size := 1; size <= 6; size++ {
		text, _ := chunk.Put(b, size)
		for i := range text {
			text[i] = '!'
		}
		if string(b) != "abcde" || !bytes.Equal(b[:20][5:], make([]byte, 15)) {
			t.Fatalf("who changes what Put wrote changes %q", b[:20])
		}
	}
	empty, _ := chunk.Put(nil, 1)
	empty[0] = '!'
	if again, _ := chunk.Put(nil, 1); string(again) != end {
		t.Errorf("who changes an end changes the next one: %q", again)
	}
}

// 9.3: what is written is read as it was, by any size, whatever stands behind it.
func TestPutIsRead(t *testing.T) {
	draw := rand.New(rand.NewSource(93))
	for i := range 1000 {
		most := 30
		if i >= 40 {
			most = 3000
		}
		body := make([]byte, draw.Intn(most))
		for i := range body {
			body[i] = "ab0\r\n\x00\xff"[draw.Intn(7)]
		}
		text, e := chunk.Put(body, 1+draw.Intn(most))
		if e != api.OK {
			t.Fatalf("Put of %q: %v", body, e)
		}
		want := said{body: string(body), used: len(text), done: true}
		if i < 40 {
			wantRead(t, string(text), want)
		}
		behind := behinds[draw.Intn(len(behinds))]
		step(t, chunk.New(), string(text)+behind, said{}, want)
		r := chunk.New()
		step(t, r, string(text), said{}, want)
		step(t, r, behind, want, want)
	}
}

// wantLength wants a number of a text; -1: none.
func wantLength(t *testing.T, s string, want int) {
	t.Helper()
	n, e := chunk.Length(s)
	if want >= 0 && (e != api.OK || n != want) {
		t.Errorf("Length of %q: %d, %v, want %d", s, n, e, want)
	}
	if want < 0 && (e != api.ErrArg || n != 0) {
		t.Errorf("Length of %q: %d, %v, want ErrArg alone", s, n, e)
	}
}

// 9.2: lengths of one to seven digits.
func TestLength(t *testing.T) {
	for s, want := range map[string]int{"0": 0, "1": 1, "9": 9, "10": 10, "999999": 999999, "1000000": 1000000, "1048575": 1048575, "1048576": chunk.MaxBody, "100": 100} {
		wantLength(t, s, want)
	}
	for _, s := range []string{
		"", "00", "01", "000", "007", "0000000", "0000001", "0999999", "01048576", "1048577", "1048580", "1050000", "2000000", "9999999",
		"10000000", "10485760", "00000000", "99999999", "18446744073709551616", "4294967297", many(5000, '1'), many(5000, '0'),
		"-1", "+1", "-0", "+0", "-", "+", " ", " 1", "1 ", "1 2", "\t1", "1\n", "1\r", "a", "1a", "a1", "f", "F", "0x1", "1e3", "1_0", "1.0", "1,0", "\x00", "1\x00", "\xff", "\u0661", "1\u0661",
	} {
		wantLength(t, s, -1)
	}
}

// 9.2: each byte at each place of a number.
func TestLengthBytes(t *testing.T) {
	for c := range 256 {
		want := -1
		if c >= '0' && c <= '9' {
			want = c - '0'
		}
		wantLength(t, one(c), want)
		for _, digits := range []string{"1", "12", "123456"} {
			right, _ := strconv.Atoi(digits)
			if want < 0 {
				wantLength(t, digits+one(c), -1)
				wantLength(t, one(c)+digits, -1)
				wantLength(t, "1"+one(c)+"1", -1)
			} else if n := 10*right + want; n <= chunk.MaxBody {
				wantLength(t, digits+one(c), n)
			} else {
				wantLength(t, digits+one(c), -1)
			}
		}
	}
}

// 9.2: each number up to MaxBody is one, and none above it is.
func TestEachLength(t *testing.T) {
	for n := range 2 * chunk.MaxBody {
		if n <= chunk.MaxBody {
			wantLength(t, strconv.Itoa(n), n)
		} else {
			wantLength(t, strconv.Itoa(n), -1)
		}
	}
}
