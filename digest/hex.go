package digest

import (
	"sallyport/api"
)

// hexDigits are the digits to the base 16, each at its value.
const hexDigits = "0123456789abcdef"

// Hex writes small letters alone, as Parse takes no others: a digest has one text.
func Hex(s [32]byte) string {
	text := make([]byte, 0, 2*len(s))
	for _, b := range s {
		text = append(text, hexDigits[b>>4], hexDigits[b&15])
	}
	return string(text)
}

// Parse tells nothing of a text that is wrong somewhere, not even what stands ahead of the wrong place.
func Parse(s string) ([32]byte, api.Errno) {
	var sum [32]byte
	if len(s) != 2*len(sum) {
		return [32]byte{}, api.ErrArg
	}
	for i := range sum {
		high, highOK := hexValue(s[2*i])
		low, lowOK := hexValue(s[2*i+1])
		if !highOK || !lowOK {
			return [32]byte{}, api.ErrArg
		}
		sum[i] = high<<4 | low
	}
	return sum, api.OK
}

// hexValue is what a digit stands for, if it is one.
func hexValue(digit byte) (byte, bool) {
	switch {
	case digit >= '0' && digit <= '9':
		return digit - '0', true
	case digit >= 'a' && digit <= 'f':
		return digit - 'a' + 10, true
	}
	return 0, false
}
