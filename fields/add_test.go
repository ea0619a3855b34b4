package fields_test

import (
	"strings"
	"testing"

	"sallyport/api"
)

// 13.3: a field comes behind all others, though they have its name, or could be none.
func TestAdd(t *testing.T) {
	wantAdded(t, nil, "Age", "5")
	wantAdded(t, []api.Field{}, "Age", "5")
	wantAdded(t, list("Age", "5"), "Age", "5")
	wantAdded(t, list("Host", "a", "Via", "b"), "aGE", "")
	wantAdded(t, list("Host", "a", "", "\x00", "a b", " "), "X", "a b\tc")
	wantAdded(t, list("Connection", "close"), "Connection", "x")
}

// 13.3: each byte in a name, at either end, within and alone.
func TestAddNameBytes(t *testing.T) {
	for c := range 256 {
		for _, name := range []string{one(c), one(c) + "n", "n" + one(c), "n" + one(c) + "n"} {
			if strings.Contains(tokenBytes, one(c)) {
				wantAdded(t, list("a", "b"), name, "v")
			} else {
				wantNotAdded(t, list("a", "b"), name, "v", api.ErrArg)
			}
		}
	}
}

// 13.3: each byte in a value, at either end, within and alone.
func TestAddValueBytes(t *testing.T) {
	for c := range 256 {
		wantAddIf(t, "v"+one(c)+"v", 33 <= c && c <= 126 || c == ' ' || c == '\t')
		for _, value := range []string{one(c), one(c) + "v", "v" + one(c)} {
			wantAddIf(t, value, 33 <= c && c <= 126)
		}
	}
}

func wantAddIf(t *testing.T, value string, right bool) {
	t.Helper()
	if right {
		wantAdded(t, list("a", "b"), "n", value)
	} else {
		wantNotAdded(t, list("a", "b"), "n", value, api.ErrArg)
	}
}

// 13.3: the longest name and the longest value, and one byte more.
func TestAddLengths(t *testing.T) {
	for _, n := range []int{1, 2, 63, 64} {
		wantAdded(t, nil, many(n, 'n'), "v")
	}
	for _, n := range []int{0, 65, 66, 4096} {
		wantNotAdded(t, nil, many(n, 'n'), "v", api.ErrArg)
	}
	for _, n := range []int{0, 1, 2, 4095, 4096} {
		wantAdded(t, nil, "n", many(n, 'v'))
	}
	for _, n := range []int{4097, 4098, api.MaxBytes + 1} {
		wantNotAdded(t, nil, "n", many(n, 'v'), api.ErrArg)
	}
	wantAdded(t, nil, "n", "v"+many(4094, ' ')+"v")
	wantNotAdded(t, nil, "n", "v"+many(4095, ' ')+"v", api.ErrArg)
	wantAdded(t, nil, many(64, 'n'), many(4096, 'v'))
}

// 13.3, P1: a wrong name or value is told ahead of too many fields.
func TestAddCounts(t *testing.T) {
	wrong := list("", "v", "a b", "v", "a:", "v", "\x00", "v", many(65, 'n'), "v", "n", " v", "n", "v ", "n", "\tv", "n", " ", "n", "v\r\nw: x", "n", "\x7f", "n", many(4097, 'v'), "", " ")
	for _, n := range []int{0, 1, 2, 62, 63} {
		wantAdded(t, numbered(n), "n", "v")
		for _, field := range wrong {
			wantNotAdded(t, numbered(n), field.Name, field.Value, api.ErrArg)
		}
	}
	for _, n := range []int{64, 65, 66, 128, api.MaxItems + 1} {
		wantNotAdded(t, numbered(n), "n", "v", api.ErrLong)
		wantNotAdded(t, make([]api.Field, n), "n", "", api.ErrLong)
		for _, field := range wrong {
			wantNotAdded(t, numbered(n), field.Name, field.Value, api.ErrArg)
		}
	}
}
