package fields

import (
	"strings"

	"sallyport/api"
	"sallyport/head"
)

// Names of fields stand here in small letters, in which they are held against each other.
const (
	connection       = "connection"
	cacheControl     = "cache-control"
	contentLength    = "content-length"
	transferEncoding = "transfer-encoding"
)

const (
	keptMethod = "GET"
	scheme     = "http://"

	comma  = ","
	blanks = " \t"
)

// hopNames is made anew for each list, as Connection fields may name any others.
func hopNames(l []api.Field) map[string]struct{} {
	names := map[string]struct{}{
		connection:            {},
		"keep-alive":          {},
		"proxy-authenticate":  {},
		"proxy-authorization": {},
		"proxy-connection":    {},
		"te":                  {},
		"trailer":             {},
		transferEncoding:      {},
		"upgrade":             {},
	}
	for _, name := range cut(l, connection, readName) {
		names[name] = struct{}{}
	}
	return names
}

// sortedOut needs all names ahead of the first field: a Connection field may name one that stands ahead of it.
func sortedOut(l []api.Field, wantHops bool) []api.Field {
	names := hopNames(l)
	var out []api.Field
	for _, field := range l {
		if _, isHop := names[small(field.Name)]; isHop == wantHops {
			out = append(out, field)
		}
	}
	return out
}

// cut gathers what is read from the parts between commas of all fields of a name; a part from which nothing is read is left out.
func cut[T any](l []api.Field, name string, read func(part string) (T, bool)) []T {
	var out []T
	for _, field := range l {
		if small(field.Name) != name {
			continue
		}
		rest, more := field.Value, true
		for more {
			var part string
			part, rest, more = strings.Cut(rest, comma)
			if what, ok := read(strings.Trim(part, blanks)); ok {
				out = append(out, what)
			}
		}
	}
	return out
}

func readName(part string) (string, bool) {
	return small(part), head.Token(part)
}

func readDirective(part string) (string, bool) {
	return small(part), part != ""
}

// small copies, and knows the letters of ASCII alone: in a head there are no others, and a letter that is small only elsewhere would make another name of it.
func small(s string) string {
	b := []byte(s)
	for i, c := range b {
		if 'A' <= c && c <= 'Z' {
			b[i] = c - 'A' + 'a'
		}
	}
	return string(b)
}
