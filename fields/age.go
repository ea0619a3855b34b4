package fields

import "strings"

const (
	agePrefix = "max-age="
	maxDigits = 7

	// noAge is told of a directive that begins as one of an age does and has no number: 0 is no age either.
	noAge = 0
)

// readAge takes wrong ages too, as there may be none beside a right one.
func readAge(part string) (int, bool) {
	digits, found := strings.CutPrefix(small(part), agePrefix)
	if age, ok := readNumber(digits); ok {
		return age, found
	}
	return noAge, found
}

// forbids is asked of directives as Directives tells them, in small letters.
func forbids(directive string) bool {
	switch directive {
	case "no-store", "no-cache", "private":
		return true
	}
	return strings.HasPrefix(directive, "no-cache=") || strings.HasPrefix(directive, "private=")
}

// readNumber looks at no more digits than a number may have, so that none wraps round.
func readNumber(s string) (int, bool) {
	if s == "" || len(s) > maxDigits || s[0] == '0' && len(s) > 1 {
		return 0, false
	}
	n := 0
	for _, c := range []byte(s) {
		if c < '0' || c > '9' {
			return 0, false
		}
		n = 10*n + int(c-'0')
	}
	return n, true
}
