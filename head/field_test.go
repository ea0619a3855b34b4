package head_test

import (
	"fmt"
	"strings"
	"testing"

	"sallyport/api"
)

// tokenBytes are all bytes that a token may have, as the chapter lists them.
const tokenBytes = "abcdefghijklmnopqrstuvwxyzABCDEFGHIJKLMNOPQRSTUVWXYZ0123456789!#$%&'*+-.^_`|~"

// wantField wants a field's line to be read, as the only one and among others.
func wantField(t *testing.T, line, name, value string) {
	t.Helper()
	field, other := api.Field{Name: name, Value: value}, api.Field{Name: "o", Value: "p"}
	both(func(what, first string) {
		t.Helper()
		wantRead(t, what, first+line+"\r\n\r\n", withFields(what, field))
		wantRead(t, what, first+"o: p\r\n"+line+"\r\no:p\r\n\r\n", withFields(what, other, field, other))
	})
}

// wantWrongField wants a field's line to be refused at its beginning, whatever stands behind it, and ahead of it if that is right.
func wantWrongField(t *testing.T, line string, number api.Errno) {
	t.Helper()
	both(func(what, first string) {
		t.Helper()
		for _, ahead := range []string{"", "o: p\r\n", "o: p\r\nHost: \t a.b \r\n"} {
			for _, behind := range []string{"", "o: p\r\n", "x\r\n", ": x\r\n", "a: \x00\r\n"} {
				b := first + ahead + line + "\r\n" + behind + "\r\n"
				wantRefused(t, what, b, len(first+ahead), number)
				wantRefused(t, what, b+"more", len(first+ahead), number)
			}
		}
	})
}

// 8.1: ordinary fields, whose names stand as they were sent.
func TestFields(t *testing.T) {
	wantField(t, "Host: a.b", "Host", "a.b")
	wantField(t, "hOST:a.b", "hOST", "a.b")
	wantField(t, "A: b c\td", "A", "b c\td")
	wantField(t, "A: b: c:d", "A", "b: c:d")
	wantField(t, "A::", "A", ":")
	wantField(t, tokenBytes[:40]+": x", tokenBytes[:40], "x")
	wantField(t, tokenBytes[40:]+": x", tokenBytes[40:], "x")
	both(func(what, first string) {
		fields := []api.Field{{Name: "A", Value: "1"}, {Name: "a", Value: "2"}, {Name: "A", Value: "1"}, {Name: "B", Value: ""}}
		wantRead(t, what, first+"A: 1\r\na: 2\r\nA:1\r\nB:\r\n\r\n", withFields(what, fields...))
	})
}

// 8.1: a line without a colon is none; a colon at its beginning leaves no name.
func TestColons(t *testing.T) {
	for _, line := range []string{"x", " ", "\t", "Host a.b", " x", "\x00", "\xff", many(5000, 'x')} {
		wantWrongField(t, line, api.ErrLine)
	}
	for _, line := range []string{":", ": x", "::", ":x:y"} {
		wantWrongField(t, line, api.ErrToken)
	}
}

// 8.1: names are tokens of 1 to 64 bytes.
func TestNameLengths(t *testing.T) {
	for _, n := range []int{1, 2, 63, 64} {
		wantField(t, many(n, 'n')+": x", many(n, 'n'), "x")
	}
	for _, n := range []int{65, 66, 4000} {
		wantWrongField(t, many(n, 'n')+": x", api.ErrToken)
	}
}

// 8.1: each byte in a name, at either end and within.
func TestNameBytes(t *testing.T) {
	for c := range 256 {
		for _, name := range []string{one(c), one(c) + "n", "n" + one(c), "n" + one(c) + "n"} {
			switch {
			case strings.Contains(tokenBytes, one(c)):
				wantField(t, name+": x", name, "x")
			case c == '\r' || c == '\n':
				wantWrongField(t, name+": x", api.ErrLine)
			case c == ':' && name[0] != ':':
				name, rest, _ := strings.Cut(name, ":")
				wantField(t, name+":"+rest, name, rest)
			default:
				wantWrongField(t, name+": x", api.ErrToken)
			}
		}
	}
}

// 8.1: a blank ahead of the colon, or of the name, belongs to the name, which then is none.
func TestBlanksAroundNames(t *testing.T) {
	for _, line := range []string{"a : b", "a\t: b", " a: b", "\ta: b", " : b", "a b: c", "a  :"} {
		wantWrongField(t, line, api.ErrToken)
	}
}

// 8.1: blanks and tabs around a value mean nothing, and within it they stand.
func TestBlanksAroundValues(t *testing.T) {
	for _, left := range []string{"", " ", "\t", "  ", " \t \t", many(3000, ' ')} {
		for _, right := range []string{"", " ", "\t", "\t ", many(3000, '\t')} {
			for _, value := range []string{"", "v", "v w", "v\tw", "v \t  w", ":", "\"v\""} {
				wantField(t, "a:"+left+value+right, "a", value)
			}
		}
	}
}

// 8.1: values have up to 4096 bytes, those that mean nothing not being counted.
func TestValueLengths(t *testing.T) {
	for _, n := range []int{0, 1, 2, 4095, 4096} {
		wantField(t, "a: "+many(n, 'v'), "a", many(n, 'v'))
		wantField(t, "a: "+many(n, 'v')+many(500, ' '), "a", many(n, 'v'))
	}
	wantField(t, "a:"+"v"+many(4094, ' ')+"w", "a", "v"+many(4094, ' ')+"w")
	for _, n := range []int{4097, 4098, 6000} {
		wantWrongField(t, "a: "+many(n, 'v'), api.ErrValue)
		wantWrongField(t, "a: v"+many(n-2, ' ')+"w", api.ErrValue)
	}
}

// 8.1, 8.6: each byte in the middle of a value, and at either end.
func TestValueBytes(t *testing.T) {
	for c := range 256 {
		for _, value := range []string{"v" + one(c) + "w", one(c) + "w", "v" + one(c), one(c)} {
			line := "a: " + value
			switch {
			case 33 <= c && c <= 126:
				wantField(t, line, "a", value)
			case c == ' ' || c == '\t':
				wantField(t, line, "a", strings.Trim(value, " \t"))
			case c == '\r' || c == '\n':
				wantWrongField(t, line, api.ErrLine)
			default:
				wantWrongField(t, line, api.ErrValue)
			}
		}
	}
}

// 8.1, 8.6: a CR or LF that stands alone makes a field's line none, wherever it stands.
func TestLoneEndsInFields(t *testing.T) {
	line := "ab: cd"
	for place := range len(line) + 1 {
		for _, lone := range []string{"\r", "\n", "\n\r", "\r\r", "\n\n"} {
			wantWrongField(t, line[:place]+lone+line[place:], api.ErrLine)
		}
	}
	for _, line := range []string{"\r", "\n", "\n\n", "\r\r", ":\r", ": \x00\n", "a b: \r", "x\r", "a: b\n\tc", "a: b\nc: d"} {
		wantWrongField(t, line, api.ErrLine)
	}
}

// 8.1: a field's line is told to be none ahead of its name, and that ahead of its value.
func TestOrderOfAField(t *testing.T) {
	wantWrongField(t, "a b\x00", api.ErrLine)
	wantWrongField(t, "a b: \x00\r", api.ErrLine)
	wantWrongField(t, "a b: \x00", api.ErrToken)
	wantWrongField(t, ": "+many(4097, 'v'), api.ErrToken)
	wantWrongField(t, "a: \x00", api.ErrValue)
}

// someFields are so many fields, and their lines.
func someFields(n int) ([]api.Field, string) {
	var fields []api.Field
	var text strings.Builder
	for i := range n {
		field := api.Field{Name: fmt.Sprintf("N%d", i), Value: fmt.Sprintf("v %d", i)}
		fields = append(fields, field)
		text.WriteString(field.Name + ": " + field.Value + "\r\n")
	}
	return fields, text.String()
}

// 8.1: there are at most MaxFields fields; a line too many is told as such, whatever stands in it and behind it.
func TestFieldCounts(t *testing.T) {
	both(func(what, first string) {
		for _, n := range []int{0, 1, 2, api.MaxFields - 1, api.MaxFields} {
			fields, text := someFields(n)
			wantRead(t, what, first+text+"\r\n", withFields(what, fields...))
		}
		_, text := someFields(api.MaxFields)
		for _, line := range []string{"a: b", "x", ":", ": x", "a b: c", "a: \x00", "a: b\rc", "\n", "\r", many(3000, 'x')} {
			wantRefused(t, what, first+text+line+"\r\n\r\n", len(first+text), api.ErrLong)
			wantRefused(t, what, first+text+line+"\r\nx\r\n\r\nmore", len(first+text), api.ErrLong)
		}
		_, text = someFields(api.MaxFields - 1)
		wantRefused(t, what, first+text+"x\r\na: b\r\n\r\n", len(first+text), api.ErrLine)
		wantRefused(t, what, first+text+"a: \x00\r\nx\r\n\r\n", len(first+text), api.ErrValue)
		wantRefused(t, what, first+"x\r\n"+text+text+"\r\n", len(first), api.ErrLine)
	})
}
