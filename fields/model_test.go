package fields_test

import (
	"math/rand"
	"regexp"
	"slices"
	"strconv"
	"strings"
	"testing"

	"sallyport/api"
	"sallyport/fields"
	"sallyport/head"
	"sallyport/host"
)

// The chapter's words as patterns, for texts in small letters.
var (
	tokenForm  = regexp.MustCompile("\\A[a-z0-9!#$%&'*+.^_`|~-]{1,64}\\z")
	numberForm = regexp.MustCompile(`\A(0|[1-9][0-9]{0,6})\z`)
	partForm   = regexp.MustCompile(`[^,]+`)
	ageBegins  = regexp.MustCompile(`(?:\A|,)[ \t]*max-age=`)
	ageForm    = regexp.MustCompile(`(?:\A|,)[ \t]*max-age=([1-9][0-9]{0,6})[ \t]*(?:,|\z)`)
	forbidForm = regexp.MustCompile(`(?:\A|,)[ \t]*(?:(?:no-store|no-cache|private)[ \t]*(?:,|\z)|(?:no-cache|private)=)`)
)

func low(s string) string {
	return sized(s, func(int) bool { return false })
}

// values are those of all fields of a name, in small letters, as one text.
func values(l []api.Field, name string) (string, int) {
	var texts []string
	for _, field := range l {
		if low(field.Name) == name {
			texts = append(texts, low(field.Value))
		}
	}
	return strings.Join(texts, ","), len(texts)
}

func isHop(l []api.Field, name string) bool {
	name = low(name)
	if slices.ContainsFunc(nineNames, func(n string) bool { return low(n) == name }) {
		return true
	}
	if !tokenForm.MatchString(name) {
		return false
	}
	named, _ := values(l, "connection")
	return strings.Contains(named, name) && regexp.MustCompile(`(?:\A|,)[ \t]*`+regexp.QuoteMeta(name)+`[ \t]*(?:,|\z)`).MatchString(named)
}

func directives(l []api.Field) []string {
	text, _ := values(l, "cache-control")
	var out []string
	for _, part := range partForm.FindAllString(text, -1) {
		if part = strings.Trim(part, " \t"); part != "" {
			out = append(out, part)
		}
	}
	return out
}

// age is 0 where nothing may be kept.
func age(l []api.Field) int {
	text, _ := values(l, "cache-control")
	m := ageForm.FindStringSubmatch(text)
	if m == nil || len(ageBegins.FindAllString(text, -1)) != 1 || forbidForm.MatchString(text) {
		return 0
	}
	n, _ := strconv.Atoi(m[1])
	return min(n, 1048576)
}

// length is -1 where there is none.
func length(l []api.Field) int {
	text, count := values(l, "content-length")
	_, others := values(l, "transfer-encoding")
	if count != 1 || others != 0 || !numberForm.MatchString(text) {
		return -1
	}
	n, _ := strconv.Atoi(text)
	return n
}

// hold wants all that is told of a list of at most MaxFields to be what the model tells.
func hold(t *testing.T, l []api.Field) {
	t.Helper()
	var places []int
	for i, field := range l {
		if isHop(l, field.Name) {
			places = append(places, i)
		}
	}
	wantParted(t, l, places...)
	holdAge(t, l)
	if n := length(l); n >= 0 {
		wantLength(t, l, n)
	} else {
		wantNoLength(t, l)
	}
}

func holdAge(t *testing.T, l []api.Field) {
	t.Helper()
	wantDirectives(t, l, directives(l)...)
	if n := age(l); n > 0 {
		wantAge(t, l, n)
	} else {
		wantNoAge(t, l)
	}
}

// rows calls do with all texts of up to so many of the pieces.
func rows(pieces []string, most int, do func(text string)) {
	do("")
	if most == 0 {
		return
	}
	for _, piece := range pieces {
		rows(pieces, most-1, func(text string) { do(piece + text) })
	}
}

// 13.1, 13.4: all short values of Connection.
func TestAllShortConnections(t *testing.T) {
	others := list("x", "1", "Xy", "2", "", "3", "te", "4", "x y", "5", ":", "6")
	rows([]string{"x", "Y", ",", " ", "\t", ":"}, 5, func(text string) {
		l := put(others, 2, list("Connection", text)...)
		hold(t, l)
	})
}

// 13.2: all short rows of pieces of directives.
func TestAllShortDirectives(t *testing.T) {
	found := 0
	rows([]string{"max-age=", "5", "0", ",", " ", "no-store", "Private", "=", "x"}, 5, func(text string) {
		if t.Failed() {
			return
		}
		l := cached(text)
		holdAge(t, l)
		if age(l) > 0 {
			found++
		}
	})
	if found < 100 {
		t.Errorf("only %d texts have an age", found)
	}
}

// 13.2: texts that differ from right ones by one byte, more, less or another one.
func TestNearDirectives(t *testing.T) {
	for _, s := range []string{"max-age=60", "max-age=1048575", "public,max-age=1", "max-age=5,no-store", "no-cache, max-age=5", "private=x,max-age=5", "max-age=5 ,\tmax-age=5", "no-caches,max-age=5,privately"} {
		for at := range len(s) + 1 {
			for b := range 256 {
				holdAge(t, cached(s[:at]+one(b)+s[at:]))
				if at < len(s) {
					holdAge(t, cached(s[:at]+one(b)+s[at+1:]))
				}
			}
			if at < len(s) {
				holdAge(t, cached(s[:at]+s[at+1:]))
			}
			holdAge(t, cached(s[:at], s[at:]))
		}
	}
}

// 13.3: all short values of Content-Length.
func TestAllShortLengths(t *testing.T) {
	rows([]string{"0", "1", "9", "000", "999", " ", "+", "x", ","}, 4, func(text string) {
		hold(t, list("Content-Length", text))
	})
}

func pick[T any](draw *rand.Rand, some ...T) T {
	return some[draw.Intn(len(some))]
}

func drawnName(draw *rand.Rand) string {
	name := pick(draw, "", "x", "y", "z", "x-y", "Host", "Via", "Connection", "Connection", "Connection", "Cache-Control", "Cache-Control", "Content-Length", "Transfer-Encoding", "TE", "Upgrade", "Trailer", "Keep-Alive", "no such", many(64, 'n'), many(65, 'n'))
	if draw.Intn(40) == 0 {
		name += one(draw.Intn(256))
	}
	return sized(name, func(int) bool { return draw.Intn(2) == 0 })
}

func drawnValue(draw *rand.Rand) string {
	value := pick(draw, "", "5", "x", "0", "12345678")
	for draw.Intn(4) > 0 {
		value += pick(draw, ",", ",", " ", "\t", ", ", " ,", "", "=") + pick(draw, "x", "y", "x-y", "via", "host", "close", "public", "max-age=5", "max-age=9999999", "max-age=7", "max-age=", "no-cache", "private", "", "z w", many(64, 'n'), many(65, 'n'), one(draw.Intn(256)))
	}
	return sized(value, func(int) bool { return draw.Intn(3) == 0 })
}

func drawnList(draw *rand.Rand, most int) []api.Field {
	var l []api.Field
	for range draw.Intn(most + 1) {
		l = append(l, api.Field{Name: drawnName(draw), Value: drawnValue(draw)})
	}
	return l
}

// 13.1 to 13.4: drawn lists, short and long ones.
func TestDrawnLists(t *testing.T) {
	draw := rand.New(rand.NewSource(131))
	found := map[string]int{}
	for i := range 12000 {
		l := drawnList(draw, pick(draw, 2, 4, 8, 8, 64))
		hold(t, l)
		if t.Failed() {
			t.Fatalf("above: list %d", i)
		}
		if age(l) > 0 {
			found["age"]++
		}
		if length(l) >= 0 {
			found["length"]++
		}
		if slices.ContainsFunc(l, func(f api.Field) bool { return isHop(l, f.Name) && !isHop(nil, f.Name) }) {
			found["named"]++
		}
	}
	if found["age"] < 300 || found["length"] < 60 || found["named"] < 1200 {
		t.Errorf("lists with an age, a length, a named hop field: %v", found)
	}
}

// 13.4: each field is in one of both, and in order: both put together again by what is a hop field of the list are the list.
func TestPartedListsAreWhole(t *testing.T) {
	draw := rand.New(rand.NewSource(132))
	for range 8000 {
		l := drawnList(draw, pick(draw, 4, 8, 64))
		hops, _ := fields.Hops(l)
		kept, _ := fields.Keep(l)
		if len(hops)+len(kept) != len(l) {
			t.Fatalf("Hops and Keep of %d fields have %d and %d", len(l), len(hops), len(kept))
		}
		for _, field := range kept {
			if isHop(l, field.Name) {
				t.Fatalf("Keep(%q) has the hop field %q", l, field)
			}
		}
		for _, field := range l {
			from := &kept
			if isHop(l, field.Name) {
				from = &hops
			}
			if len(*from) == 0 || (*from)[0] != field {
				t.Fatalf("Hops or Keep of %q has not %q where it belongs", l, field)
			}
			*from = (*from)[1:]
		}
	}
}

// 13.5: drawn fields of other names, put in anywhere or taken away, change nothing of Age.
func TestDrawnOtherFields(t *testing.T) {
	draw := rand.New(rand.NewSource(133))
	kept := 0
	for range 6000 {
		l := drawnList(draw, 6)
		if draw.Intn(2) == 0 {
			l = append(l, api.Field{Name: "Cache-Control", Value: pick(draw, "max-age=60", "public, Max-Age=1", "max-age=2,")})
		}
		n, ok := fields.Age(l)
		more := l
		for range draw.Intn(80) {
			if field := (api.Field{Name: drawnName(draw), Value: drawnValue(draw)}); low(field.Name) != "cache-control" {
				more = put(more, draw.Intn(len(more)+1), field)
			}
		}
		fewer := slices.DeleteFunc(slices.Clone(l), func(f api.Field) bool { return low(f.Name) != "cache-control" })
		for _, other := range [][]api.Field{more, fewer} {
			if m, may := fields.Age(other); m != n || may != ok {
				t.Fatalf("Age(%q): %d, %v; of %q: %d, %v", other, m, may, l, n, ok)
			}
		}
		if ok {
			kept++
		}
	}
	if kept < 600 {
		t.Errorf("only %d lists have an age", kept)
	}
}

// drawnRequest could be written more often than not.
func drawnRequest(draw *rand.Rand) api.Request {
	d := toName(pick(draw, "a", "b", "a.b", "a.b.c", "ab", "a", "a", "A", "a."), pick(draw, 1, 8, 80, 81, 808, 65535, 80, 8, 0, 65536))
	if draw.Intn(2) == 0 {
		d = toAddr(pick[byte](draw, 1, 11), pick[byte](draw, 1, 11), 1, pick[byte](draw, 1, 11), d.Port)
	}
	path := pick(draw, "/", "/", "/x", "/:8/", "x", "")
	for draw.Intn(2) == 0 {
		path += pick(draw, "/", "x", "/x", "80", ":80/", "http://", "?", " ", "\x00", "%20")
	}
	var l []api.Field
	for range draw.Intn(4) {
		l = append(l, api.Field{Name: pick(draw, "Host", "X", "Y", "", "a b", "X", "Y"), Value: pick(draw, "a", "b c", "", " x", "http://a:1/ HTTP/1.1", "x", "y")})
	}
	return api.Request{Method: pick(draw, "GET", "GET", "GET", "GET", "GET", "get", "HEAD", "CONNECT"), Dest: d, Path: path, Fields: l}
}

// 13.3, 13.6: drawn requests: those that have a key are those that can be written, and no key has two destinations or two paths.
func TestDrawnKeys(t *testing.T) {
	type what struct {
		dest api.Dest
		path string
	}
	draw := rand.New(rand.NewSource(134))
	of, told := map[string]what{}, 0
	for range 50000 {
		r := drawnRequest(draw)
		if _, e := head.PutRequest(r); e != api.OK || r.Method != "GET" {
			wantNoKey(t, r)
			continue
		}
		key := host.PrintDest(r.Dest) + r.Path
		wantKey(t, r, key)
		if was, there := of[key]; there && was != (what{r.Dest, r.Path}) {
			t.Errorf("%v and %v have one key, %q", was, r, key)
		}
		of[key] = what{r.Dest, r.Path}
		told++
	}
	if told < 3000 || len(of) < 500 {
		t.Errorf("only %d requests have a key, of %d keys", told, len(of))
	}
}

// P1, P2: whatever is asked, and refused, in between, the same question has the same answer; and no bytes make a call panic.
func TestCallsKeepNothing(t *testing.T) {
	draw := rand.New(rand.NewSource(135))
	bytes := func() string {
		b := make([]byte, draw.Intn(20))
		for i := range b {
			b[i] = byte(draw.Intn(256))
		}
		return string(b)
	}
	for range 3000 {
		var junk []api.Field
		for range draw.Intn(80) {
			junk = append(junk, api.Field{Name: pick(draw, bytes(), drawnName(draw)), Value: bytes()})
		}
		fields.Hops(junk)
		fields.Keep(junk)
		fields.Age(junk)
		fields.Length(junk)
		fields.Directives(junk)
		fields.Add(junk, bytes(), bytes())
		fields.Key(api.Request{Method: pick(draw, "GET", bytes()), Dest: toName(bytes(), draw.Int()), Path: "/" + bytes(), Fields: junk})
		wantParted(t, list("Host", "a", "Connection", "x, close", "X", "1", "Via", "b", "close", "2"), 1, 2, 4)
		wantParted(t, list("x", "1", "close", "2"))
		wantAge(t, cached("public, Max-Age=60"), 60)
		wantNoAge(t, cached("max-age=60, no-store"))
		wantLength(t, list("content-length", "5"), 5)
		wantKey(t, get(toName("a.b", 80), "/x"), "a.b:80/x")
		wantAdded(t, list("Host", "a"), "Age", "5")
	}
}
