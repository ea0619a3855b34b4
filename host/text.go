package host

import (
	"strconv"

	"sallyport/api"
)

// readNumber gives up as soon as the number is above its bound, so that no number of digits overflows.
func readNumber(s string, most int) (int, bool) {
	if !hasDigitsAlone(s) || len(s) > 1 && s[0] == '0' {
		return 0, false
	}
	n := 0
	for i := range len(s) {
		n = n*10 + int(s[i]-'0')
		if n > most {
			return 0, false
		}
	}
	return n, true
}

// readLabel tells the label with small letters alone.
func readLabel(label string) ([]byte, bool) {
	if len(label) < 1 || len(label) > api.MaxLabel {
		return nil, false
	}
	small := make([]byte, len(label))
	for i := range small {
		b, ok := labelByte(label[i], i > 0 && i < len(label)-1)
		if !ok {
			return nil, false
		}
		small[i] = b
	}
	return small, true
}

// labelByte tells a label's byte in its form, if a label may have it there; within tells that it is neither the first nor the last one.
func labelByte(b byte, within bool) (byte, bool) {
	switch {
	case b >= 'A' && b <= 'Z':
		b += 'a' - 'A'
		fallthrough
	case b >= 'a' && b <= 'z', isDigit(b):
		return b, true
	case b == '-' && within:
		return b, true
	}
	return 0, false
}

func looksLikeAddr(s string) bool {
	for i := range len(s) {
		if s[i] != '.' && !isDigit(s[i]) {
			return false
		}
	}
	return true
}

func hasDigitsAlone(s string) bool {
	for i := range len(s) {
		if !isDigit(s[i]) {
			return false
		}
	}
	return s != ""
}

func isDigit(b byte) bool {
	return b >= '0' && b <= '9'
}

func isPort(n int) bool {
	return n >= 1 && n <= maxPort
}

func printAddr(a api.Addr) string {
	text := strconv.Itoa(int(a.A))
	for _, octet := range [3]byte{a.B, a.C, a.D} {
		text += "." + strconv.Itoa(int(octet))
	}
	return text
}

// word lays an address' first byte highest, so that its first bits are the word's first ones.
func word(a api.Addr) uint32 {
	return uint32(a.A)<<24 | uint32(a.B)<<16 | uint32(a.C)<<8 | uint32(a.D)
}
