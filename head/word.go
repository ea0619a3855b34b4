package head

import "strings"

const (
	maxToken  = 64
	maxValue  = 4096
	maxPath   = 2048
	maxReason = 256

	leastStatus  = 100
	mostStatus   = 599
	statusDigits = 3

	blanks     = " \t"
	tokenMarks = "!#$%&'*+-.^_`|~"
)

// Token is asked of methods and of fields' names alike.
func Token(s string) bool {
	if s == "" || len(s) > maxToken {
		return false
	}
	for _, c := range []byte(s) {
		if !isTokenByte(c) {
			return false
		}
	}
	return true
}

// Value counts the blanks and tabs within it too, and wants none at its ends: they would not be read again.
func Value(s string) bool {
	if len(s) > maxValue || trimmed(s) != s {
		return false
	}
	for _, c := range []byte(s) {
		if c != '\t' && (c < ' ' || c > '~') {
			return false
		}
	}
	return true
}

func isTokenByte(c byte) bool {
	switch {
	case 'a' <= small(c) && small(c) <= 'z', '0' <= c && c <= '9':
		return true
	}
	return strings.IndexByte(tokenMarks, c) >= 0
}

// isPath counts the / at the beginning too.
func isPath(s string) bool {
	return strings.HasPrefix(s, "/") && len(s) <= maxPath && isWithin(s, '!', '~')
}

// isReason lets blanks stand at either end: they belong to the reason.
func isReason(s string) bool {
	return len(s) <= maxReason && isWithin(s, ' ', '~')
}

func isVersion(s string) bool {
	return s == version || s == olderVersion
}

func isStatus(n int) bool {
	return leastStatus <= n && n <= mostStatus
}

// readStatus takes digits alone, so that no sign is one of the three.
func readStatus(s string) (int, bool) {
	if len(s) != statusDigits || !isWithin(s, '0', '9') {
		return 0, false
	}
	status := 0
	for _, digit := range []byte(s) {
		status = 10*status + int(digit-'0')
	}
	return status, isStatus(status)
}

func isWithin(s string, least, most byte) bool {
	for _, c := range []byte(s) {
		if c < least || c > most {
			return false
		}
	}
	return true
}

func hasLoneEnd(line string) bool {
	return strings.ContainsAny(line, lineEnd)
}

func trimmed(s string) string {
	return strings.Trim(s, blanks)
}

func sameName(a, b string) bool {
	if len(a) != len(b) {
		return false
	}
	for i := range len(a) {
		if small(a[i]) != small(b[i]) {
			return false
		}
	}
	return true
}

func small(c byte) byte {
	if 'A' <= c && c <= 'Z' {
		return c - 'A' + 'a'
	}
	return c
}
