package chunk_test

import (
	"math/rand"
	"strconv"
	"strings"
	"testing"

	"sallyport/api"
	"sallyport/chunk"
)

// rows calls hold with each row of up to so many bytes out of these.
func rows(letters string, most int, hold func(row string)) {
	list := []string{""}
	for range most + 1 {
		var longer []string
		for _, row := range list {
			hold(row)
			for _, c := range []byte(letters) {
				longer = append(longer, row+string([]byte{c}))
			}
		}
		list = longer
	}
}

// 9.4: all short rows of bytes, at the beginning and behind what leads to each of a reader's places, whole, byte by byte, and cut once.
func TestShortRows(t *testing.T) {
	for _, ahead := range []string{"", "1", "2\r\n", "2\r\nx", "1\r\nx", "1\r\nx\r\n", "0", "0\r\n", "12345", "f00000", "1000000"} {
		rows("012a\r\n;", 4, func(row string) {
			text := ahead + row
			goOn(t, chunk.New(), "", text)
			goOn(t, chunk.New(), "", cut(text, 1)...)
			goOn(t, chunk.New(), "", ahead, row)
			goOn(t, chunk.New(), "", text[:len(text)/2], "", text[len(text)/2:])
		})
	}
	rows("01\r\n", 8, func(row string) {
		goOn(t, chunk.New(), "", row)
		goOn(t, chunk.New(), "", cut(row, 3)...)
	})
}

// drawBody is a chunked body with sizes in letters of any size, and the body.
func drawBody(draw *rand.Rand) (string, string) {
	var text, body strings.Builder
	for range draw.Intn(6) {
		piece := make([]byte, 1+draw.Intn(40))
		for i := range piece {
			piece[i] = "0a\r\nx"[draw.Intn(5)]
		}
		size := strconv.FormatInt(int64(len(piece)), 16)
		if draw.Intn(2) == 0 {
			size = strings.ToUpper(size)
		}
		text.WriteString(size + "\r\n" + string(piece) + "\r\n")
		body.Write(piece)
	}
	return text.String() + end, body.String()
}

// spoil changes, drops or adds a byte somewhere.
func spoil(draw *rand.Rand, text string) string {
	at := draw.Intn(len(text))
	c := string([]byte{byte(draw.Intn(256))})
	if draw.Intn(2) == 0 {
		c = string("09afAF\r\n; g"[draw.Intn(11)])
	}
	switch draw.Intn(3) {
	case 0:
		return text[:at] + c + text[at+1:]
	case 1:
		return text[:at] + text[at+1:]
	}
	return text[:at] + c + text[at:]
}

// drawCut cuts a text into pieces of drawn sizes, some of them empty.
func drawCut(draw *rand.Rand, text string) []string {
	var pieces []string
	most := 1 + draw.Intn(20)
	for text != "" {
		n := min(len(text), draw.Intn(most+1))
		pieces = append(pieces, text[:n])
		text = text[n:]
	}
	return pieces
}

// 9.1, 9.4, 9.5: drawn bodies, right ones and spoilt ones, however they are cut.
func TestDrawn(t *testing.T) {
	draw := rand.New(rand.NewSource(94))
	for range 3000 {
		text, body := drawBody(draw)
		if want := (said{body: body, used: len(text), done: true}); modelOf(text) != want {
			t.Fatalf("the model of %q: %v, want %v", text, modelOf(text), want)
		}
		goOn(t, chunk.New(), "", drawCut(draw, text+"behind")...)
		for range draw.Intn(4) {
			text = spoil(draw, text)
		}
		for range 4 {
			goOn(t, chunk.New(), "", drawCut(draw, text+"behind")...)
		}
	}
}

// P1: rows of any bytes are read, or refused at one of their places.
func TestAnyBytes(t *testing.T) {
	draw := rand.New(rand.NewSource(95))
	for range 3000 {
		b := make([]byte, draw.Intn(64))
		for i := range b {
			b[i] = byte(draw.Intn(256))
		}
		goOn(t, chunk.New(), "", drawCut(draw, string(b))...)
		if _, e := chunk.Put(b, draw.Intn(200)-100); e != api.OK && e != api.ErrArg {
			t.Errorf("Put of %q: %v", b, e)
		}
		if n, e := chunk.Length(string(b)); e != api.OK && (e != api.ErrArg || n != 0) {
			t.Errorf("Length of %q: %d, %v", b, n, e)
		}
	}
}
