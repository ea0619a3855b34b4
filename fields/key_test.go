package fields_test

import (
	"math"
	"testing"

	"sallyport/api"
	"sallyport/fields"
	"sallyport/host"
)

func toName(name string, port int) api.Dest {
	return api.Dest{Host: api.Host{Name: name}, Port: port}
}

func toAddr(a, b, c, d byte, port int) api.Dest {
	return api.Dest{Host: api.Host{Addr: api.Addr{A: a, B: b, C: c, D: d}}, Port: port}
}

func get(d api.Dest, path string, l ...api.Field) api.Request {
	return api.Request{Method: "GET", Dest: d, Path: path, Fields: l}
}

// label63 is the longest label that there may be.
var label63 = many(63, 'n')

// rightDests have the text beside them that PrintDest tells.
var rightDests = map[string]api.Dest{
	"a.b:80":                         toName("a.b", 80),
	"a:1":                            toName("a", 1),
	"a:2":                            toName("a", 2),
	"a:8":                            toName("a", 8),
	"a:80":                           toName("a", 80),
	"a:65535":                        toName("a", 65535),
	"example.com:443":                toName("example.com", 443),
	"x.example.com:443":              toName("x.example.com", 443),
	"0.0.0.0:80":                     toAddr(0, 0, 0, 0, 80),
	"0.0.0.0:1":                      toAddr(0, 0, 0, 0, 1),
	"10.0.0.1:80":                    toAddr(10, 0, 0, 1, 80),
	"10.0.0.1:65535":                 toAddr(10, 0, 0, 1, 65535),
	"10.0.0.18:80":                   toAddr(10, 0, 0, 18, 80),
	"255.255.255.255:8080":           toAddr(255, 255, 255, 255, 8080),
	"http:80":                        toName("http", 80),
	label63 + "." + label63 + ".c:9": toName(label63+"."+label63+".c", 9),
}

// rightPaths are paths of all kinds that a key could be cut wrongly at.
var rightPaths = []string{"/", "//", "/x", "/X", "/x/", "/x/y", "/x?y=z&w", "/%20", "/http://c:1/y", "/a:80/", "/:80/x", "/HTTP/1.1", "/!\"#$%&'()*+,-.~", "/" + many(2046, 'p'), "/" + many(2047, 'p')}

// 13.3: the destination's text, and the path.
func TestKeys(t *testing.T) {
	wantKey(t, get(toName("a.b", 80), "/x"), "a.b:80/x")
	for text, d := range rightDests {
		if host.PrintDest(d) != text {
			t.Fatalf("PrintDest(%v): %q, want %q", d, host.PrintDest(d), text)
		}
		for _, path := range rightPaths {
			wantKey(t, get(d, path), text+path)
			wantKey(t, get(d, path, []api.Field{}...), text+path)
		}
	}
	for c := range 256 {
		if path := "/x" + one(c) + "y"; 33 <= c && c <= 126 {
			wantKey(t, get(toName("a", 80), path), "a:80"+path)
			wantKey(t, get(toName("a", 80), "/"+one(c)), "a:80/"+one(c))
		} else {
			wantNoKey(t, get(toName("a", 80), path))
			wantNoKey(t, get(toName("a", 80), "/"+one(c)))
		}
	}
}

// 13.3: other methods have no key, tokens or not; CONNECT has none with a path and without.
func TestKeyMethods(t *testing.T) {
	for _, method := range []string{"", "get", "Get", "GEt", "gET", "GET ", " GET", "GETS", "GE", "G\x00T", "GET\r\n", "HEAD", "POST", "PUT", "OPTIONS", "CONNECT", "x", many(64, 'G'), many(65, 'G'), "GET http://b"} {
		for _, path := range []string{"/x", "/", ""} {
			for _, d := range []api.Dest{toName("a.b", 80), toAddr(10, 0, 0, 1, 443)} {
				wantNoKey(t, api.Request{Method: method, Dest: d, Path: path})
			}
		}
	}
	wantNoKey(t, api.Request{})
	wantNoKey(t, api.Request{Method: "GET"})
}

// 13.3: paths that are none.
func TestKeyPaths(t *testing.T) {
	for _, path := range []string{"", " ", "x", "x/", " /x", "/x ", "/x y", "/\t", "*", "http://a/x", "?x", "/\x00", "/x\r\n", "/x\x7f", "/\xff", "/é", "/" + many(2048, 'p'), "/" + many(70000, 'p')} {
		for _, d := range rightDests {
			wantNoKey(t, get(d, path))
		}
	}
}

// 13.3: destinations that are none, by their port or by their host.
func TestKeyDests(t *testing.T) {
	for _, port := range []int{0, -1, -80, 65536, 65537, 1<<16 + 80, 1<<32 + 80, math.MinInt, math.MaxInt} {
		wantNoKey(t, get(toName("a.b", port), "/x"))
		wantNoKey(t, get(toAddr(10, 0, 0, 1, port), "/x"))
	}
	for _, name := range []string{"A", "a.B", "a.", ".a", "a..b", "-", "-a", "a-", "a_b", "a b", " ", "1", "a.1", "10.0.0.1", "a:1", "a/b", "\x00", "é", "a\r\n", many(64, 'n'), many(254, 'n')} {
		wantNoKey(t, get(toName(name, 80), "/x"))
	}
	wantNoKey(t, get(api.Dest{Host: api.Host{Addr: api.Addr{A: 10}, Name: "a"}, Port: 80}, "/x"))
	wantNoKey(t, get(api.Dest{Host: api.Host{Addr: api.Addr{D: 1}, Name: "a.b"}, Port: 80}, "/x"))
}

// 13.3: fields that can't be written leave no key; others change nothing of it.
func TestKeyFields(t *testing.T) {
	d := toName("a.b", 80)
	for _, l := range [][]api.Field{nil, {}, list("Host", "c"), list("X", "", "X", ""), list("Connection", "http://x y"), list("Cache-Control", "no-store"), list(many(64, 'n'), many(4096, 'v')), numbered(63), numbered(64)} {
		wantKey(t, get(d, "/x", l...), "a.b:80/x")
	}
	for _, l := range [][]api.Field{list("", "x"), list("a b", "x"), list("a:", "x"), list(many(65, 'n'), "x"), list("a", " x"), list("a", "x\t"), list("a", "\x00"), list("a", "x\r\ny: z"), list("a", "é"), list("a", many(4097, 'v'))} {
		wantNoKey(t, get(d, "/x", l...))
		wantNoKey(t, get(d, "/x", put(numbered(3), 3, l...)...))
		wantNoKey(t, get(d, "/x", put(numbered(64), 0, l...)...))
	}
	for _, n := range []int{65, 66, api.MaxItems + 1} {
		wantNoKey(t, get(d, "/x", numbered(n)...))
	}
}

// 13.3: the longest head that can be written has a key, and one of a byte more has none.
func TestKeyOfMaxHead(t *testing.T) {
	d := toName("a.b", 80)
	rest := 8192 - len("GET http://a.b:80/x HTTP/1.1\r\n") - len("n: \r\n") - 4096 - len("n: \r\n") - len("\r\n")
	for n := rest - 3; n <= rest+3; n++ {
		r := get(d, "/x", list("n", many(4096, 'v'), "n", many(n, 'v'))...)
		if n <= rest {
			wantKey(t, r, "a.b:80/x")
		} else {
			wantNoKey(t, r)
		}
	}
}

// 13.6: requests of one key have one destination and one path, and requests of two have two.
func TestKeysTellApart(t *testing.T) {
	type what struct {
		dest api.Dest
		path string
	}
	of := map[string]what{}
	count := 0
	for _, d := range rightDests {
		for _, path := range rightPaths {
			key, e := fields.Key(get(d, path))
			other, e2 := fields.Key(get(d, path, list("X", "1", "Host", "b")...))
			if e != api.OK || e2 != api.OK || key != other {
				t.Fatalf("Key of %v, %.50q: %.100q, %v, and with fields %.100q, %v", d, path, key, e, other, e2)
			}
			if was, there := of[key]; there && was != (what{d, path}) {
				t.Errorf("%v and %v have one key, %.100q", was, what{d, path}, key)
			}
			of[key] = what{d, path}
			count++
		}
	}
	if len(of) != count {
		t.Errorf("%d requests have %d keys", count, len(of))
	}
}
