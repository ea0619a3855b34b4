package fields_test

import (
	"fmt"
	"slices"
	"strings"
	"testing"

	"sallyport/api"
	"sallyport/fields"
)

// nineNames are those of the fields that are hop fields by themselves, as the chapter lists them.
var nineNames = []string{"Connection", "Keep-Alive", "Proxy-Authenticate", "Proxy-Authorization", "Proxy-Connection", "TE", "Trailer", "Transfer-Encoding", "Upgrade"}

// tokenBytes are all bytes that a token may have, as chapter 8 lists them.
const tokenBytes = "abcdefghijklmnopqrstuvwxyzABCDEFGHIJKLMNOPQRSTUVWXYZ0123456789!#$%&'*+-.^_`|~"

// list makes fields of names and values in turn.
func list(texts ...string) []api.Field {
	var l []api.Field
	for i := 0; i < len(texts); i += 2 {
		l = append(l, api.Field{Name: texts[i], Value: texts[i+1]})
	}
	return l
}

// all is a field of this name with each of the values.
func all(name string, values ...string) []api.Field {
	var l []api.Field
	for _, value := range values {
		l = append(l, api.Field{Name: name, Value: value})
	}
	return l
}

// numbered is so many fields, no two the same, none of which means anything.
func numbered(n int) []api.Field {
	var l []api.Field
	for i := range n {
		l = append(l, api.Field{Name: fmt.Sprint("N", i), Value: fmt.Sprint("v ", i)})
	}
	return l
}

// put is a list with fields put in at a place.
func put(l []api.Field, at int, more ...api.Field) []api.Field {
	return slices.Concat(l[:at], more, l[at:])
}

// sized is a text whose letters of ASCII are great at the places that are told, and small at all others.
func sized(s string, great func(at int) bool) string {
	b := []byte(s)
	for at, c := range b {
		switch {
		case 'a' <= c && c <= 'z' && great(at):
			b[at] = c - 32
		case 'A' <= c && c <= 'Z' && !great(at):
			b[at] = c + 32
		}
	}
	return string(b)
}

// sizes is a text as it is, in small letters, in great ones, and in both mixed.
func sizes(s string) []string {
	return []string{
		s,
		sized(s, func(int) bool { return false }),
		sized(s, func(int) bool { return true }),
		sized(s, func(at int) bool { return at%2 == 0 }),
		sized(s, func(at int) bool { return at%2 == 1 }),
	}
}

// many is a text of so many times the same byte.
func many(n int, b byte) string {
	return strings.Repeat(string([]byte{b}), n)
}

// one is a text of this byte alone, whatever byte it is.
func one(c int) string {
	return string([]byte{byte(c)})
}

// wantParted wants the fields at these places to be the hop fields, and all others to be kept.
func wantParted(t *testing.T, l []api.Field, places ...int) {
	t.Helper()
	was := slices.Clone(l)
	var wantHops, wantKept []api.Field
	for i, field := range l {
		if slices.Contains(places, i) {
			wantHops = append(wantHops, field)
		} else {
			wantKept = append(wantKept, field)
		}
	}
	if hops, e := fields.Hops(l); !slices.Equal(hops, wantHops) || e != api.OK {
		t.Errorf("Hops(%.300q): %.300q, %v, want %.300q", l, hops, e, wantHops)
	}
	kept, e := fields.Keep(l)
	if !slices.Equal(kept, wantKept) || e != api.OK {
		t.Errorf("Keep(%.300q): %.300q, %v, want %.300q", l, kept, e, wantKept)
	}
	if again, e := fields.Keep(kept); !slices.Equal(again, kept) || e != api.OK {
		t.Errorf("Keep of Keep(%.300q): %.300q, %v, want %.300q", l, again, e, kept)
	}
	if none, e := fields.Hops(kept); len(none) != 0 || e != api.OK {
		t.Errorf("Hops of Keep(%.300q): %.300q, %v, want none", l, none, e)
	}
	if !slices.Equal(l, was) {
		t.Errorf("the list is %.300q, was %.300q", l, was)
	}
}

// wantTooLong wants neither of both to part a list.
func wantTooLong(t *testing.T, l []api.Field) {
	t.Helper()
	if hops, e := fields.Hops(l); len(hops) != 0 || e != api.ErrLong {
		t.Errorf("Hops of %d fields: %d fields, %v, want %v", len(l), len(hops), e, api.ErrLong)
	}
	if kept, e := fields.Keep(l); len(kept) != 0 || e != api.ErrLong {
		t.Errorf("Keep of %d fields: %d fields, %v, want %v", len(l), len(kept), e, api.ErrLong)
	}
}

func wantDirectives(t *testing.T, l []api.Field, want ...string) {
	t.Helper()
	if got := fields.Directives(l); !slices.Equal(got, want) {
		t.Errorf("Directives(%.300q): %.300q, want %.300q", l, got, want)
	}
}

func wantAge(t *testing.T, l []api.Field, want int) {
	t.Helper()
	if n, ok := fields.Age(l); n != want || !ok {
		t.Errorf("Age(%.300q): %d, %v, want %d, true", l, n, ok, want)
	}
}

func wantNoAge(t *testing.T, l []api.Field) {
	t.Helper()
	if n, ok := fields.Age(l); n != 0 || ok {
		t.Errorf("Age(%.300q): %d, %v, want 0, false", l, n, ok)
	}
}

func wantLength(t *testing.T, l []api.Field, want int) {
	t.Helper()
	if n, ok := fields.Length(l); n != want || !ok {
		t.Errorf("Length(%.300q): %d, %v, want %d, true", l, n, ok, want)
	}
}

func wantNoLength(t *testing.T, l []api.Field) {
	t.Helper()
	if n, ok := fields.Length(l); n != 0 || ok {
		t.Errorf("Length(%.300q): %d, %v, want 0, false", l, n, ok)
	}
}

func wantAdded(t *testing.T, l []api.Field, name, value string) {
	t.Helper()
	want := put(l, len(l), api.Field{Name: name, Value: value})
	if got, e := fields.Add(l, name, value); !slices.Equal(got, want) || e != api.OK {
		t.Errorf("Add(%d fields, %.100q, %.100q): %.300q, %v", len(l), name, value, got, e)
	}
}

func wantNotAdded(t *testing.T, l []api.Field, name, value string, want api.Errno) {
	t.Helper()
	if got, e := fields.Add(l, name, value); len(got) != 0 || e != want {
		t.Errorf("Add(%d fields, %.100q, %.100q): %d fields, %v, want %v", len(l), name, value, len(got), e, want)
	}
}

func wantKey(t *testing.T, r api.Request, want string) {
	t.Helper()
	if key, e := fields.Key(r); key != want || e != api.OK {
		t.Errorf("Key(%.300q): %.300q, %v, want %.300q", fmt.Sprint(r), key, e, want)
	}
}

func wantNoKey(t *testing.T, r api.Request) {
	t.Helper()
	if key, e := fields.Key(r); key != "" || e != api.ErrArg {
		t.Errorf("Key(%.300q): %.300q, %v, want %v", fmt.Sprint(r), key, e, api.ErrArg)
	}
}
