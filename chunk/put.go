package chunk

import (
	"slices"
	"strconv"

	"sallyport/api"
)

const (
	lineEnd = "\r\n"
	bodyEnd = "0" + lineEnd + lineEnd

	lengthDigits = 7
)

// Put writes bytes of any number, as the chapter bounds the size alone: of more than MaxBody a reader refuses what is too much.
func Put(b []byte, size int) ([]byte, api.Errno) {
	if size < 1 || size > api.MaxBytes {
		return nil, api.ErrArg
	}
	var text []byte
	for piece := range slices.Chunk(b, size) {
		text = strconv.AppendInt(text, int64(len(piece)), 16)
		text = append(text, lineEnd...)
		text = append(text, piece...)
		text = append(text, lineEnd...)
	}
	return append(text, bodyEnd...), api.OK
}

// Length takes digits alone: the library's readers of numbers would let a sign stand ahead of them.
func Length(s string) (int, api.Errno) {
	if s == "" || len(s) > lengthDigits || len(s) > 1 && s[0] == '0' {
		return 0, api.ErrArg
	}
	length := 0
	for _, c := range []byte(s) {
		if c < '0' || c > '9' {
			return 0, api.ErrArg
		}
		length = 10*length + int(c-'0')
	}
	if length > MaxBody {
		return 0, api.ErrArg
	}
	return length, api.OK
}
