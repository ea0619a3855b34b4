package fields_test

import (
	"fmt"
	"strings"
	"testing"

	"sallyport/api"
)

// cached are fields Cache-Control with these values.
func cached(values ...string) []api.Field {
	return all("Cache-Control", values...)
}

// 13.2: of no field, of one and of several, with others beside them.
func TestDirectives(t *testing.T) {
	wantDirectives(t, nil)
	wantDirectives(t, []api.Field{})
	wantDirectives(t, list("Host", "a, b", "", "c", "Connection", "d", "Cache", "e", "Cache-Control ", "f", "Pragma", "no-cache"))
	wantDirectives(t, cached("a"), "a")
	wantDirectives(t, cached("public, Max-Age=60"), "public", "max-age=60")
	wantDirectives(t, cached("b,a", "c", "a,b"), "b", "a", "c", "a", "b")
	wantDirectives(t, list("X", "1", "Cache-Control", "b", "Host", "c", "cache-control", "a, d", "", "e", "CACHE-CONTROL", "b"), "b", "a", "d", "b")
	for _, name := range sizes("Cache-Control") {
		wantDirectives(t, list(name, "x"), "x")
		wantDirectives(t, list(name+"s", "x", name[1:], "x", "x"+name, "x", name[:12], "x", "Ca\u017fche-control", "x"))
	}
}

// 13.2: empty parts are left out, and so are blanks and tabs at the ends of others; those within stand.
func TestDirectiveParts(t *testing.T) {
	for _, value := range []string{"", " ", "\t", ",", ",,", " , ", "\t,\t,", ", \t ,", many(5000, ',')} {
		wantDirectives(t, cached(value))
		wantDirectives(t, cached(value, value))
		wantDirectives(t, cached(value, "a", value), "a")
		wantDirectives(t, cached(value+",a"), "a")
		wantDirectives(t, cached("a,"+value+",b"), "a", "b")
	}
	for _, value := range []string{"a,b", " a , b ", "\ta\t,\tb\t", " \ta\t ,,, \tb", ",a,b,", ",, ,a ,b, ,"} {
		wantDirectives(t, cached(value), "a", "b")
	}
	wantDirectives(t, cached("a b,c\td,  e  f  "), "a b", "c\td", "e  f")
	wantDirectives(t, cached("a = 1, b= 2"), "a = 1", "b= 2")
	wantDirectives(t, cached("no-cache=\"a, B\""), "no-cache=\"a", "b\"")
}

// 13.2: each byte in a directive: a comma parts it, blanks and tabs are left out at its ends, letters of ASCII are small, all others stand.
func TestDirectiveBytes(t *testing.T) {
	for c := range 256 {
		small := one(c)
		if 'A' <= c && c <= 'Z' {
			small = strings.ToLower(small)
		}
		switch {
		case c == ',':
			wantDirectives(t, cached("X,Y"), "x", "y")
		case c == ' ' || c == '\t':
			wantDirectives(t, cached("X"+one(c)+"Y"), "x"+small+"y")
			wantDirectives(t, cached(one(c)+"X"+one(c)), "x")
		default:
			wantDirectives(t, cached("X"+one(c)+"Y"), "x"+small+"y")
			wantDirectives(t, cached(one(c)+"X"+one(c)), small+"x"+small)
			wantDirectives(t, cached(one(c)), small)
		}
	}
	wantDirectives(t, cached("ÄÖ\u212a\u0130"), "ÄÖ\u212a\u0130")
}

// 13.2: nothing bounds the list, nor a value.
func TestDirectivesOfLongLists(t *testing.T) {
	for _, n := range []int{64, 65, 66, api.MaxItems + 1} {
		var l []api.Field
		var want []string
		for i := range n {
			l = append(l, api.Field{Name: "Cache-Control", Value: fmt.Sprint("D", i)})
			want = append(want, fmt.Sprint("d", i))
		}
		wantDirectives(t, l, want...)
		wantDirectives(t, put(numbered(n), n, cached("a")...), "a")
		wantAge(t, put(numbered(n), n, cached("max-age=7")...), 7)
		wantAge(t, put(l, n, cached("max-age=7")...), 7)
		wantNoAge(t, put(put(numbered(n), n, cached("no-store")...), 0, cached("max-age=7")...))
	}
	wantDirectives(t, cached(many(70000, 'A')), many(70000, 'a'))
	wantAge(t, cached(many(70000, 'A')+", max-age=7,"+many(70000, ' ')), 7)
}

// 13.2: the chapter's example.
func TestAgeExample(t *testing.T) {
	wantAge(t, cached("public, Max-Age=60"), 60)
	wantNoAge(t, cached("public, Max-Age=60, no-store"))
	wantNoAge(t, cached("public, Max-Age=60", "no-store"))
}

// 13.2: without an age nothing is kept.
func TestNoAge(t *testing.T) {
	wantNoAge(t, nil)
	wantNoAge(t, []api.Field{})
	wantNoAge(t, list("Age", "60", "Expires", "60", "max-age", "60", "max-age=60", "max-age=60", "X", "max-age=60", "", "max-age=60"))
	for _, value := range []string{"", ",", "public", "max-age", "max age=5", "max-age:5", "max_age=5", "s-maxage=5", "smax-age=5", "maxage=5", "ax-age=5", "5", "=5", "immutable"} {
		wantNoAge(t, cached(value))
		wantAge(t, cached(value, "max-age=9"), 9)
		wantAge(t, cached("max-age=9,"+value), 9)
	}
}

// ages are what may stand behind max-age=, and the age that it means (0: none).
var ages = map[string]int{
	"": 0, "0": 0, "00": 0, "1": 1, "2": 2, "9": 9, "10": 10, "60": 60, "01": 0, "060": 0, "0000001": 0, "00000001": 0,
	"999999": 999999, "1000000": 1000000, "1048575": 1048575, "1048576": 1048576, "1048577": 1048576, "1100000": 1048576, "9999999": 1048576,
	"10000000": 0, "12345678": 0, "99999999": 0, "01048576": 0, "0000000": 0, "00000000": 0,
	"4294967297": 0, "18446744073709551617": 0, "36893488147419103292": 0,
	"+1": 0, "-1": 0, "+": 0, "-": 0, "1a": 0, "a1": 0, "1.5": 0, "1.": 0, ".1": 0, "1e3": 0, "0x1": 0, "1_0": 0, "x": 0, "=1": 0,
	"1 2": 0, "1\t2": 0, "1;": 0, "\"1\"": 0, "'1'": 0, "1\x00": 0, "\x001": 0, "1\n": 0, "\u0661": 0, "\xff": 0, "/": 0, ":": 0,
}

// 13.2: what is an age and what is none.
func TestAges(t *testing.T) {
	for digits, want := range ages {
		for _, prefix := range sizes("max-age=") {
			for _, l := range [][]api.Field{cached(prefix + digits), cached("a, " + prefix + digits + " ,b"), cached("public", "\t"+prefix+digits+"\t", "x")} {
				if want > 0 {
					wantAge(t, l, want)
				} else {
					wantNoAge(t, l)
				}
			}
		}
	}
	for _, value := range []string{"max-age= 5", "max-age=\t5", "max-age=5 5", "max-age=5 x", "max-age =5", "max-age\t=5", "max- age=5"} {
		wantNoAge(t, cached(value))
	}
	wantAge(t, cached("max-age =5, max-age=6"), 6)
}

// 13.2: each byte at each place among the digits.
func TestAgeBytes(t *testing.T) {
	for c := range 256 {
		for _, ahead := range []string{"", "2", "23"} {
			for _, behind := range []string{"", "4", "45"} {
				l := cached("x,max-age=" + ahead + one(c) + behind + ",y")
				digit := '0' <= c && c <= '9'
				blank := c == ' ' || c == '\t' || c == ','
				switch whole := ahead + one(c) + behind; {
				case digit && whole[0] != '0':
					n := 0
					fmt.Sscan(whole, &n)
					wantAge(t, l, n)
				case ahead != "" && (blank && behind == "" || c == ','):
					n := 0
					fmt.Sscan(ahead, &n)
					wantAge(t, l, n)
				default:
					wantNoAge(t, l)
				}
			}
		}
	}
}

// 13.2: no second directive may begin as an age does, be it the same, another, or none.
func TestTwoAges(t *testing.T) {
	for _, first := range []string{"max-age=5", "Max-Age=5", "max-age=", "max-age=0"} {
		for digits := range ages {
			second := "max-age=" + digits
			for _, two := range sizes(second) {
				wantNoAge(t, cached(first+","+two))
				wantNoAge(t, cached(two+", public ,"+first))
				wantNoAge(t, cached(first, two))
				wantNoAge(t, cached(first, "x", two))
			}
		}
		wantNoAge(t, cached("max-age=5", "max-age=5", first))
	}
	wantAge(t, cached("max-age=5, max-age, s-maxage=6, x-max-age=7, \"max-age=8\""), 5)
}

// 13.2: directives that let nothing be kept, ahead of an age and behind it, and such that only look so.
func TestForbidding(t *testing.T) {
	forbid := []string{"no-store", "no-cache", "private", "no-cache=", "private=", "no-cache=x", "private=x", "no-cache=\"x\"", "private=\"a", "no-cache==", "private= x", "no-cache=\x00"}
	for _, value := range forbid {
		for _, written := range sizes(value) {
			wantNoAge(t, cached(written))
			wantNoAge(t, cached(written+",max-age=5"))
			wantNoAge(t, cached("max-age=5, "+written))
			wantNoAge(t, cached("max-age=5,x,\t"+written+" ,y"))
			wantNoAge(t, cached("max-age=5", written))
			wantNoAge(t, cached(written, "max-age=5"))
			wantNoAge(t, list("cache-control", "a", "X", "1", "CACHE-CONTROL", written, "Y", "2", "Cache-Control", "max-age=5"))
		}
	}
	let := []string{"no-stores", "no-store=", "no-store=x", "no-store x", "no-stor", "no-caches", "no-cache x", "no-cache =x", "no-cach", "privately", "private x", "private\t=", "privat", "xno-store", "x-private", "=private", "\"private\"", "nostore", "no_store", "no-store;", "no", "store", "no - store", "no-\u017ftore", "public", "must-revalidate", "no-transform"}
	for _, value := range let {
		for _, written := range sizes(value) {
			wantNoAge(t, cached(written))
			wantAge(t, cached(written+",max-age=5"), 5)
			wantAge(t, cached("max-age=5, "+written), 5)
			wantAge(t, cached("max-age=5", written), 5)
			wantAge(t, cached(written, "max-age=5", written), 5)
		}
	}
}

// 13.5: other fields, whatever they say, change nothing, wherever they stand.
func TestAgeOfOtherFields(t *testing.T) {
	names := []string{"", "X", "Pragma", "Expires", "Age", "Connection", "Cache-Contro", "Cache-Controls", "Cache_Control", "Cache-Control ", " Cache-Control", "Proxy-Cache-Control"}
	values := []string{"", "no-store", "no-cache", "private", "max-age=5", "max-age=", "Cache-Control", "cache-control, no-store", "0"}
	for _, row := range []struct {
		list []api.Field
		age  int
	}{
		{nil, 0},
		{cached("private"), 0},
		{cached("max-age=60"), 60},
		{cached("public", "max-age=60"), 60},
		{cached("max-age=60", "no-store"), 0},
		{cached("max-age=1", "max-age=2"), 0},
	} {
		for _, name := range names {
			for _, value := range values {
				for at := range len(row.list) + 1 {
					for _, more := range [][]api.Field{list(name, value), list(name, value, "Y", "private", name, value)} {
						l := put(row.list, at, more...)
						if row.age > 0 {
							wantAge(t, l, row.age)
						} else {
							wantNoAge(t, l)
						}
					}
				}
			}
		}
	}
}
