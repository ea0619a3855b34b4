package head_test

import (
	"slices"
	"strings"
	"testing"

	"sallyport/api"
	"sallyport/head"
)

func wantToken(t *testing.T, s string, want bool) {
	t.Helper()
	if got := head.Token(s); got != want {
		t.Errorf("Token of %s: %v, want %v", short(s), got, want)
	}
}

func wantValue(t *testing.T, s string, want bool) {
	t.Helper()
	if got := head.Value(s); got != want {
		t.Errorf("Value of %s: %v, want %v", short(s), got, want)
	}
}

func wantGet(t *testing.T, l []api.Field, name, value string, count int) {
	t.Helper()
	if v, n := head.Get(l, name); v != value || n != count {
		t.Errorf("Get of %q in %v: %q, %d, want %q, %d", name, l, v, n, value, count)
	}
}

// 8.3: tokens have 1 to 64 bytes.
func TestTokenLengths(t *testing.T) {
	wantToken(t, "", false)
	for n := 1; n <= 200; n++ {
		wantToken(t, many(n, 'a'), n <= 64)
		wantToken(t, many(n, '~'), n <= 64)
	}
	wantToken(t, many(api.MaxBytes+1, 'a'), false)
	wantToken(t, tokenBytes[:64], true)
	wantToken(t, tokenBytes[len(tokenBytes)-64:], true)
}

// 8.3: each byte of a token is a letter, a digit or one of the marks, wherever it stands.
func TestTokenBytes(t *testing.T) {
	for c := range 256 {
		want := strings.Contains(tokenBytes, one(c))
		for _, s := range []string{one(c), one(c) + "a", "a" + one(c), "a" + one(c) + "b", many(63, 'a') + one(c)} {
			wantToken(t, s, want)
		}
	}
	wantToken(t, "é", false)
	wantToken(t, "\u212a", false) // the sign of a unit that folds to k
}

// 8.3: values have up to 4096 bytes, blanks and tabs among them.
func TestValueSizes(t *testing.T) {
	for _, n := range []int{0, 1, 2, 4095, 4096} {
		wantValue(t, many(n, 'v'), true)
	}
	wantValue(t, "a"+many(4094, ' ')+"b", true)
	for _, n := range []int{4097, 4098, api.MaxBytes + 1} {
		wantValue(t, many(n, 'v'), false)
		wantValue(t, "a"+many(n-2, '\t')+"b", false)
	}
}

// 8.3: each byte of a value is from 33 to 126, or between others a blank or a tab.
func TestValuesByteByByte(t *testing.T) {
	for c := range 256 {
		seen := 33 <= c && c <= 126
		blank := c == ' ' || c == '\t'
		wantValue(t, "a"+one(c)+"b", seen || blank)
		wantValue(t, "a"+one(c)+one(c)+"b", seen || blank)
		for _, s := range []string{one(c), one(c) + "a", "a" + one(c), one(c) + one(c)} {
			wantValue(t, s, seen)
		}
	}
	wantValue(t, "a \t b", true)
	wantValue(t, " \t", false)
	wantValue(t, "a\r\nb", false)
	wantValue(t, "é", false)
}

// 8.3: Get tells the first field of a name, in whatever letters, and how many there are.
func TestGet(t *testing.T) {
	l := []api.Field{{Name: "Host", Value: "a"}, {Name: "X-1", Value: ""}, {Name: "hOsT", Value: "b"}, {Name: "x-1", Value: "c"}, {Name: "Hos", Value: "d"}, {Name: "HOST", Value: "a"}}
	for _, name := range []string{"Host", "host", "HOST", "hOSt"} {
		wantGet(t, l, name, "a", 3)
	}
	wantGet(t, l, "X-1", "", 2)
	wantGet(t, l, "x-1", "", 2)
	wantGet(t, l, "hos", "d", 1)
	for _, name := range []string{"", "Hosts", "ost", "x_1", "x", "Host ", " Host", "Host:"} {
		wantGet(t, l, name, "", 0)
	}
	wantGet(t, nil, "a", "", 0)
	wantGet(t, nil, "", "", 0)
	wantGet(t, []api.Field{}, "a", "", 0)
}

// 8.3: the size of letters alone does not count: all other bytes stand for themselves, also those that differ from one another as letters' sizes do.
func TestGetByteByByte(t *testing.T) {
	for a := range 256 {
		for b := range 256 {
			count := 0
			if a == b || ('A' <= a && a <= 'Z' && b == a+32) || ('A' <= b && b <= 'Z' && a == b+32) {
				count = 1
			}
			value := many(count, 'v')
			wantGet(t, []api.Field{{Name: "n" + one(a) + "m", Value: "v"}}, "N"+one(b)+"M", value, count)
		}
	}
	wantGet(t, []api.Field{{Name: "\u212a", Value: "v"}}, "k", "", 0) // the sign of a unit that folds to k
	wantGet(t, []api.Field{{Name: "É", Value: "v"}}, "é", "", 0)
}

// 8.3: Get asks no field to be right, nor that there be few.
func TestGetOfAnything(t *testing.T) {
	l := slices.Repeat([]api.Field{{Name: "", Value: "\r\n"}, {Name: "a:\x00", Value: " "}}, 5000)
	wantGet(t, l, "", "\r\n", 5000)
	wantGet(t, l, "A:\x00", " ", 5000)
	wantGet(t, l, "a", "", 0)
}

// Rule 4: Get does not change its fields.
func TestGetLeavesFields(t *testing.T) {
	l := []api.Field{{Name: "Host", Value: "a"}, {Name: "hOsT", Value: "b"}}
	before := slices.Clone(l)
	head.Get(l, "HOST")
	if !slices.Equal(l, before) {
		t.Errorf("Get has changed %v into %v", before, l)
	}
}
