package fields_test

import (
	"strings"
	"testing"

	"sallyport/api"
)

// 13.1: the chapter's example.
func TestPartedExample(t *testing.T) {
	wantParted(t, list("Host", "a", "Connection", "x, close", "X", "1", "Via", "b"), 1, 2)
}

// 13.1: lists of none, of one, of the most that may be and of more, whatever stands in them.
func TestPartedCounts(t *testing.T) {
	wantParted(t, nil)
	wantParted(t, []api.Field{})
	wantParted(t, list("Host", "a"))
	wantParted(t, list("TE", "a"), 0)
	for _, n := range []int{1, 2, 3, 10, 62, 63, 64} {
		l := numbered(n)
		wantParted(t, l)
		for _, at := range []int{0, n / 2, n - 1} {
			with := put(l[1:], at, list("Upgrade", "x")...)
			wantParted(t, with, at)
			with[at] = api.Field{Name: "Connection", Value: "n" + l[n-1].Name[1:]}
			if at == n-1 {
				wantParted(t, with, at-1, at)
			} else {
				wantParted(t, with, at, n-1)
			}
		}
	}
	for _, n := range []int{65, 66, 128, api.MaxItems + 1} {
		wantTooLong(t, numbered(n))
		wantTooLong(t, make([]api.Field, n))
		wantTooLong(t, put(numbered(n-1), 0, list("Connection", "x")...))
		wantTooLong(t, put(numbered(n-1), n-1, list("TE", "x")...))
	}
}

// 13.1: all fields of the longest list may be hop fields, each by itself or by another's word.
func TestPartedAllHops(t *testing.T) {
	var l []api.Field
	var places []int
	for i := range 64 {
		l = append(l, api.Field{Name: nineNames[i%9], Value: "v"})
		places = append(places, i)
	}
	wantParted(t, l, places...)
	l = numbered(63)
	var names []string
	for _, field := range l {
		names = append(names, field.Name)
	}
	wantParted(t, append(l, api.Field{Name: "Connection", Value: strings.Join(names, ",")}), places...)
}

// 13.1: each of the nine names, whatever the size of its letters and whatever its value, alone and among others.
func TestNineNames(t *testing.T) {
	for _, name := range nineNames {
		for _, written := range sizes(name) {
			for _, value := range []string{"", "x", "close", "a b", "\x00", ",", "é"} {
				wantParted(t, list(written, value), 0)
				wantParted(t, list("Host", "a", written, value, "Via", "b"), 1)
				wantParted(t, list(written, value, "Host", "a", written, value), 0, 2)
			}
		}
	}
}

// 13.1: names that have a byte more than one of the nine, a byte less, or another one.
func TestNearNineNames(t *testing.T) {
	for _, name := range nineNames {
		for at := range len(name) + 1 {
			for c := range 256 {
				wantParted(t, list(name[:at]+one(c)+name[at:], "x"))
				if at == len(name) {
					continue
				}
				if other := name[:at] + one(c) + name[at+1:]; strings.EqualFold(name[at:at+1], one(c)) {
					wantParted(t, list(other, "x"), 0)
				} else {
					wantParted(t, list(other, "x"))
				}
			}
			if at < len(name) {
				wantParted(t, list(name[:at]+name[at+1:], "x"))
			}
		}
	}
	// Letters that are the same as these only where letters beyond ASCII count.
	for _, name := range []string{"\u212aeep-Alive", "Tran\u017ffer-Encoding", "Connect\u0130on", "Connecti\u00f6n", "\uff34\uff25"} {
		wantParted(t, list(name, "x", "X", "1"))
	}
}

// 13.1: other names that a proxy knows are no hop fields.
func TestOtherNames(t *testing.T) {
	for _, name := range []string{"", " ", "Host", "Via", "Close", "Trailers", "Content-Length", "Cache-Control", "Proxy", "Proxy-", "Alive", "Transfer", "Encoding", "Content-Encoding", "Accept-Encoding", "X-Connection", "Connections", "Set-Cookie", "Authorization", "TE TE", "TE,", " TE", "TE ", "TE:", "\tTE"} {
		wantParted(t, list(name, "x"))
		wantParted(t, list(name, "x", "TE", "x", name, "x"), 1)
	}
}

// 13.1: what a Connection field names, wherever that stands and whatever the size of its letters.
func TestConnectionNames(t *testing.T) {
	for _, connection := range sizes("Connection") {
		wantParted(t, list(connection, "", "X", "1", "", "2"), 0)
		wantParted(t, list(connection, "y", "X", "1"), 0)
		wantParted(t, list(connection, "X", "X", "1", "Y", "2"), 0, 1)
		wantParted(t, list("X", "1", connection, "X", "Y", "2"), 0, 1)
		wantParted(t, list("X", "1", "Y", "2", connection, "X"), 0, 2)
		wantParted(t, list("X", "1", "Y", "2", "Z", "3", connection, "Z,X"), 0, 2, 3)
		wantParted(t, list(connection, "x,y,z", "z", "1", "y", "2", "w", "3", "x", "4"), 0, 1, 2, 4)
		for _, named := range sizes("X-Long-Name") {
			for _, written := range sizes("X-Long-Name") {
				wantParted(t, list(written, "1", connection, "a, "+named+", b", "X-Long-Names", "2", "X-Long-Nam", "3"), 0, 1)
			}
		}
	}
	wantParted(t, list("Connection", "x", "x", "1", "X", "2", "y", "3", "x", "1"), 0, 1, 2, 4)
	wantParted(t, list("Connection", "connection, te, host", "TE", "1", "Host", "2"), 0, 1, 2)
}

// 13.1: of several Connection fields each names some.
func TestTwoConnections(t *testing.T) {
	wantParted(t, list("Connection", "x", "connection", "y", "X", "1", "Y", "2", "Z", "3"), 0, 1, 2, 3)
	wantParted(t, list("Connection", "x", "X", "1", "Y", "2", "Z", "3", "CONNECTION", "z"), 0, 1, 3, 4)
	wantParted(t, list("X", "1", "Connection", "", "Y", "2", "Connection", "y"), 1, 2, 3)
	wantParted(t, list("Connection", "x", "X", "1", "Connection", "x"), 0, 1, 2)
	wantParted(t, list("Connection", "x y", "X", "1", "Y", "2", "Connection", "y"), 0, 2, 3)
	wantParted(t, list("Connection", "a", "Connection", "b", "ab", "1", "a,b", "2"), 0, 1)
}

// 13.1: no other field names hop fields, even if it is one, or is named by one.
func TestOnlyConnectionNames(t *testing.T) {
	for _, name := range nineNames[1:] {
		wantParted(t, list(name, "x", "X", "1"), 0)
	}
	wantParted(t, list("Connections", "x", "Cache-Control", "x", "X", "1", "", "x", "Connection ", "x"))
	wantParted(t, list("Connection", "x", "X", "y", "Y", "1"), 0, 1)
}

// 13.1: blanks and tabs at a part's ends are left out, those within make it no token; empty parts and commas alone name nothing.
func TestConnectionParts(t *testing.T) {
	others := list("x", "1", "y", "2", "x y", "3", "", "4", " x", "5", ",", "6", "x,y", "7")
	for value, places := range map[string][]int{
		"":                    {0},
		" ":                   {0},
		"\t":                  {0},
		",":                   {0},
		",,,,":                {0},
		" , \t,\t ":           {0},
		"x":                   {0, 1},
		" x":                  {0, 1},
		"x ":                  {0, 1},
		"\tx\t":               {0, 1},
		" \t \tx\t \t ":       {0, 1},
		",x":                  {0, 1},
		"x,":                  {0, 1},
		",,x,,":               {0, 1},
		"x,y":                 {0, 1, 2},
		"y,x":                 {0, 1, 2},
		"x , y":               {0, 1, 2},
		" x\t,\ty ":           {0, 1, 2},
		"x,,y":                {0, 1, 2},
		"x, \t ,y":            {0, 1, 2},
		"x,x,x":               {0, 1},
		"x y":                 {0},
		"x\ty":                {0},
		"x y,x":               {0, 1},
		"y,x y":               {0, 2},
		"x;y":                 {0},
		"x:":                  {0},
		"x=1":                 {0},
		"\"x\"":               {0},
		"\"x,y,z\"":           {0, 2},
		"(x),y":               {0, 2},
		"x\x00":               {0},
		"\nx":                 {0},
		"x\r":                 {0},
		"x\r\n,y":             {0, 2},
		"\vx":                 {0},
		"\u00a0x":             {0},
		"x\xff,y\xfe":         {0},
		many(5000, ','):       {0},
		many(5000, ' ') + "x": {0, 1},
	} {
		wantParted(t, put(others, 0, list("Connection", value)...), places...)
	}
}

// 13.1: each byte beside a name in a part: of a token, at a part's end, or of none.
func TestConnectionBytes(t *testing.T) {
	for c := range 256 {
		for _, part := range []string{one(c) + "q", "q" + one(c), "q" + one(c) + "q"} {
			l := list("Connection", part, "q", "1", part, "2")
			switch {
			case c == ',', (c == ' ' || c == '\t') && len(part) == 2:
				wantParted(t, l, 0, 1)
			case strings.Contains(tokenBytes, one(c)):
				wantParted(t, l, 0, 2)
			default:
				wantParted(t, l, 0)
			}
		}
	}
}

// 13.1: a part is a token up to 64 bytes; a longer one names nothing, nor does its beginning.
func TestConnectionPartLengths(t *testing.T) {
	for _, n := range []int{1, 2, 63, 64} {
		wantParted(t, list("Connection", many(n, 'n'), many(n, 'N'), "1", many(n+1, 'n'), "2"), 0, 1)
	}
	for _, n := range []int{65, 66, 4096, 70000} {
		wantParted(t, list("Connection", many(n, 'n'), many(n, 'n'), "1", many(64, 'n'), "2", many(n-1, 'n'), "3"), 0)
	}
}

// 13.1: a field without a name is named by nothing.
func TestEmptyNames(t *testing.T) {
	wantParted(t, list("", "", "", "x", "TE", ""), 2)
	for _, value := range []string{"", ",", " ", " , ", "x,,y", "\"\""} {
		wantParted(t, list("", "x", "Connection", value, "", ""), 1)
	}
}
