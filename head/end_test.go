package head_test

import (
	"strings"
	"testing"

	"sallyport/api"
	"sallyport/head"
)

func wantEnd(t *testing.T, b string, want int) {
	t.Helper()
	if size, err := head.End([]byte(b)); err != nil || size != want {
		t.Errorf("End of %s: %d, %v, want %d", short(b), size, err, want)
	}
}

// wantLong wants all readers to refuse bytes without an end within MaxHead.
func wantLong(t *testing.T, b string) {
	t.Helper()
	for what := range readers {
		wantRefused(t, what, b, api.MaxHead, api.ErrLong)
	}
}

// sized is a head of so many bytes, its fields being as long as they must.
func sized(first string, n int) (string, []api.Field) {
	var fields []api.Field
	left := n - len(first) - 2
	var text strings.Builder
	text.WriteString(first)
	for left > 0 {
		size := min(left, 4000)
		if rest := left - size; rest > 0 && rest < 10 {
			size -= 10
		}
		field := api.Field{Name: "x", Value: many(size-5, 'v')}
		fields = append(fields, field)
		text.WriteString("x: " + field.Value + "\r\n")
		left -= size
	}
	return text.String() + "\r\n", fields
}

// 8.1: the end is behind the first empty line, wherever that is, whatever the lines ahead of it are.
func TestEnd(t *testing.T) {
	wantEnd(t, "\r\n", 2)
	wantEnd(t, "\r\nmore\r\n\r\n", 2)
	wantEnd(t, "\r\n\r\n", 2)
	wantEnd(t, "a\r\n\r\n", 5)
	wantEnd(t, "a\r\nb\r\n\r\n", 8)
	wantEnd(t, "a\r\n\r\nb\r\n\r\n", 5)
	wantEnd(t, "a\r\n\r\n\r\n", 5)
	wantEnd(t, "\x00\xff\r\n\r\n", 6)
	wantEnd(t, get+"\r\n", len(get)+2)
	wantEnd(t, ok+"a: b\r\n\r\nbody", len(ok)+8)
}

// 8.1: a CR or LF alone is no end of a line, and neither are an LF and an LF.
func TestNoEnd(t *testing.T) {
	for _, b := range []string{"", "\r", "\n", "\n\r", "\r\r", "\n\n", "a\n\n", "a\r\r", "a\r\n", "a\r\n\r", "a\r\n\n", "a\n\r\n", "a\r\r\n", "a\r\n\r\r\n", "\r\r\n", "\n\r\n", "a\r\n\n\r\n", "GET http://a.b/ HTTP/1.1\n\n", "a\r\n b\r\n \r\n"} {
		wantShort(t, b)
	}
	wantEnd(t, "\r\r\n\r\n", 5)
	wantEnd(t, "\n\r\n\r\n", 5)
	wantEnd(t, "a\r\n\r\r\n\r\n", 8)
	wantEnd(t, "a\n\n\r\n\r\n", 7)
}

// 8.5: all beginnings of a head, none of whose bytes need be right, are too short.
func TestCutHeads(t *testing.T) {
	for _, b := range []string{"\r\n", "x\r\n\r\n", get + "\r\n", ok + "\r\n", get + "Host: a.b\r\n\r\n", "GET /x HTTP/1.1\r\n\r\n", "G@T\r\n: \r\nx\r\n\r\n", "\x00\r\n\x01\r\n\r\n"} {
		wantCuts(t, b)
		wantEnd(t, b, len(b))
	}
}

// 8.1: a head has at most MaxHead bytes.
func TestHeadsOfMaxHead(t *testing.T) {
	both(func(what, first string) {
		for n := api.MaxHead - 8; n <= api.MaxHead; n++ {
			b, fields := sized(first, n)
			if len(b) != n {
				t.Fatalf("a head of %d bytes has %d", n, len(b))
			}
			wantRead(t, what, b, withFields(what, fields...))
		}
		for n := api.MaxHead + 1; n < api.MaxHead+8; n++ {
			b, _ := sized(first, n)
			wantLong(t, b)
			wantLong(t, b+"\r\n\r\n")
			wantLong(t, b[:api.MaxHead])
			wantShort(t, b[:api.MaxHead-1])
		}
	})
}

// 8.5: the longest head, cut behind each of its bytes, is too short.
func TestCutsOfTheLongestHead(t *testing.T) {
	both(func(what, first string) {
		b, _ := sized(first, api.MaxHead)
		for n := range b {
			wantRefused(t, what, b[:n], n, api.ErrShort)
		}
	})
}

// 8.1: without an end fewer than MaxHead bytes are too few, and all others too many.
func TestMaxHeadWithoutAnEnd(t *testing.T) {
	for _, c := range []byte("a \r\n\x00") {
		wantShort(t, many(api.MaxHead-2, c))
		wantShort(t, many(api.MaxHead-1, c))
		for _, n := range []int{api.MaxHead, api.MaxHead + 1, api.MaxHead + 2, 3 * api.MaxHead, api.MaxBytes + 1} {
			wantLong(t, many(n, c))
		}
	}
	wantShort(t, get+many(api.MaxHead-1-len(get), 'x'))
	wantLong(t, get+many(api.MaxHead-len(get), 'x'))
}

// 8.1: an end that begins within MaxHead bytes and is over beyond them is none.
func TestEndAcrossMaxHead(t *testing.T) {
	for begin := api.MaxHead - 6; begin <= api.MaxHead+4; begin++ {
		b := many(begin, 'a') + "\r\n\r\n"
		if begin <= api.MaxHead-4 {
			wantEnd(t, b, begin+4)
			wantEnd(t, b+"more", begin+4)
			continue
		}
		wantLong(t, b)
		wantLong(t, b+"\r\n\r\n")
		wantLong(t, b[:api.MaxHead])
		wantShort(t, b[:api.MaxHead-1])
	}
}

// 8.1: what is too long is told as such, whatever else is wrong in it; and what is too short likewise.
func TestLengthsAreToldFirst(t *testing.T) {
	for _, first := range []string{"x\r\n", "G@T / \r\n", "\nx\r\n", get + ": \r\n", ok + "x\ry\r\n"} {
		wantShort(t, first)
		wantLong(t, first+many(api.MaxHead, 'x')+"\r\n\r\n")
		wantLong(t, (first + many(api.MaxHead, 'x'))[:api.MaxHead])
	}
}
