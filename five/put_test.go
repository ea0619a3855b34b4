package five_test

import (
	"fmt"
	"math"
	"slices"
	"strings"
	"testing"

	"sallyport/api"
	"sallyport/five"
)

// wantPut wants an encoder's bytes, and them to be read as they were written.
func wantPut(t *testing.T, what string, b []byte, e api.Errno, want string, read reader, back said) {
	t.Helper()
	if string(b) != want || e != api.OK {
		t.Errorf("Put%s: %x, %v, want %x", what, b, e, want)
	}
	wantRead(t, what, read, string(b), back)
	wantCuts(t, what, read, string(b))
}

// wantNone wants an encoder to refuse: what is to be written is none.
func wantNone(t *testing.T, what string, b []byte, e api.Errno) {
	t.Helper()
	if len(b) != 0 || e != api.ErrArg {
		t.Errorf("%s: %x, %v, want no bytes and %v", what, b, e, api.ErrArg)
	}
}

// noBytes are numbers that no byte has, but their lowest one may look like one.
func noBytes() []int {
	return []int{-1, -5, -256, 256, 257, 511, 65536, 1 << 32, 1<<32 + 1, math.MaxInt, math.MinInt}
}

// 7.2, 7.3: greetings of 1 to 255 methods.
func TestPutGreeting(t *testing.T) {
	b, e := five.PutGreeting(0)
	wantPut(t, "Greeting", b, e, "\x05\x01\x00", readGreeting, said{methods: []int{0}})
	b, e = five.PutGreeting(255, 0, 2, 2)
	wantPut(t, "Greeting", b, e, "\x05\x04\xff\x00\x02\x02", readGreeting, said{methods: []int{255, 0, 2, 2}})
	for n := 1; n <= 255; n++ {
		methods, want := []int{}, []byte{5, byte(n)}
		for i := range n {
			methods = append(methods, 7*i%256)
			want = append(want, byte(7*i))
		}
		b, e := five.PutGreeting(methods...)
		wantPut(t, "Greeting", b, e, string(want), readGreeting, said{methods: methods})
	}
}

// 7.2: a greeting of no methods, of too many, or of one that is no byte, is none.
func TestNoGreeting(t *testing.T) {
	b, e := five.PutGreeting()
	wantNone(t, "PutGreeting of nothing", b, e)
	b, e = five.PutGreeting([]int{}...)
	wantNone(t, "PutGreeting of an empty list", b, e)
	for _, n := range []int{256, 257, 511, 512, 65537} {
		b, e = five.PutGreeting(make([]int, n)...)
		wantNone(t, fmt.Sprint("PutGreeting of so many methods: ", n), b, e)
	}
	for _, wrong := range noBytes() {
		for _, methods := range [][]int{{wrong}, {wrong, 0}, {0, wrong}, {0, wrong, 0}} {
			b, e = five.PutGreeting(methods...)
			wantNone(t, fmt.Sprint("PutGreeting of ", methods), b, e)
		}
	}
	last := make([]int, 255)
	last[254] = 256
	b, e = five.PutGreeting(last...)
	wantNone(t, "PutGreeting of a wrong last method", b, e)
}

// 7.2, 7.3: users and passwords of 1 to 255 bytes, whatever bytes they are.
func TestPutLogin(t *testing.T) {
	texts := []string{"u", "\x00", "\xff\xfe", "pq", many(254, 1), many(255, 'z')}
	for _, user := range texts {
		for _, pass := range texts {
			b, e := five.PutLogin(user, pass)
			wantPut(t, "Login", b, e, "\x01"+counted(user)+counted(pass), readLogin, said{user: user, pass: pass})
		}
	}
}

// 7.2: a user or a password of no bytes, or of too many, is none.
func TestNoLogin(t *testing.T) {
	wrong := []string{"", many(256, 'a'), many(257, 'a'), many(511, 'a'), many(65537, 'a')}
	for _, text := range wrong {
		for _, other := range append([]string{"u", many(255, 'z')}, wrong...) {
			b, e := five.PutLogin(text, other)
			wantNone(t, fmt.Sprintf("PutLogin of %d and %d bytes", len(text), len(other)), b, e)
			b, e = five.PutLogin(other, text)
			wantNone(t, fmt.Sprintf("PutLogin of %d and %d bytes", len(other), len(text)), b, e)
		}
	}
}

// bothPut holds a test of PutRequest against PutReply too.
func bothPut(t *testing.T, hold func(what string, put func(int, api.Dest) ([]byte, api.Errno), read reader)) {
	t.Helper()
	hold("Request", five.PutRequest, readRequest)
	hold("Reply", five.PutReply, readReply)
}

// 7.2, 7.3: requests and replies of every word, with names and addresses.
func TestPutTo(t *testing.T) {
	bothPut(t, func(what string, put func(int, api.Dest) ([]byte, api.Errno), read reader) {
		for word := range 256 {
			head := string([]byte{5, byte(word), 0})
			d := named("a.b", 443)
			b, e := put(word, d)
			wantPut(t, what, b, e, head+"\x03\x03a.b\x01\xbb", read, said{word: word, dest: d})
			d = at(10, 0, 0, 1, 80)
			b, e = put(word, d)
			wantPut(t, what, b, e, head+"\x01\x0a\x00\x00\x01\x00P", read, said{word: word, dest: d})
		}
		b, e := put(0, api.Dest{})
		wantPut(t, what, b, e, "\x05\x00\x00\x01\x00\x00\x00\x00\x00\x00", read, said{})
		for _, n := range []int{3, 63, 64, api.MaxName - 1, api.MaxName} {
			d := named(longName(n), 1)
			b, e := put(1, d)
			wantPut(t, what, b, e, "\x05\x01\x00\x03"+counted(longName(n))+"\x00\x01", read, said{word: 1, dest: d})
		}
	})
}

// 7.2: each port from 0 to 65535 is written, and no other.
func TestPutPorts(t *testing.T) {
	bothPut(t, func(what string, put func(int, api.Dest) ([]byte, api.Errno), read reader) {
		for port := range 65536 {
			b, e := put(1, named("a", port))
			if want := []byte{5, 1, 0, 3, 1, 'a', byte(port / 256), byte(port % 256)}; !slices.Equal(b, want) || e != api.OK {
				t.Errorf("Put%s of port %d: %x, %v", what, port, b, e)
			}
		}
		for _, port := range []int{-1, -65536, -65535, 65536, 65537, 1 << 17, 1 << 32, math.MaxInt, math.MinInt} {
			b, e := put(1, named("a", port))
			wantNone(t, fmt.Sprint("Put", what, " of a name at port ", port), b, e)
			b, e = put(1, at(10, 0, 0, 1, port))
			wantNone(t, fmt.Sprint("Put", what, " of an address at port ", port), b, e)
		}
	})
}

// 7.2: a command or a code that is no byte is none.
func TestPutNoWord(t *testing.T) {
	for _, wrong := range noBytes() {
		bothPut(t, func(what string, put func(int, api.Dest) ([]byte, api.Errno), read reader) {
			b, e := put(wrong, named("a", 80))
			wantNone(t, fmt.Sprint("Put", what, " of ", wrong, " and a name"), b, e)
			b, e = put(wrong, at(10, 0, 0, 1, 80))
			wantNone(t, fmt.Sprint("Put", what, " of ", wrong, " and an address"), b, e)
		})
		b, e := five.PutChoice(wrong)
		wantNone(t, fmt.Sprint("PutChoice of ", wrong), b, e)
		b, e = five.PutVerdict(wrong)
		wantNone(t, fmt.Sprint("PutVerdict of ", wrong), b, e)
	}
}

// 7.2: a host that is not right is none.
func TestPutNoHost(t *testing.T) {
	hosts := []api.Host{
		{Name: "A"}, {Name: "a.B"}, {Name: "-"}, {Name: "a..b"}, {Name: "a."}, {Name: "a b"}, {Name: "\x00"}, {Name: "a_"},
		{Name: "10.0.0.1"}, {Name: "1"}, {Name: "a.1"},
		{Name: "a", Addr: api.Addr{A: 1}}, {Name: "a", Addr: api.Addr{D: 1}},
		{Name: longName(api.MaxName + 1)}, {Name: longName(255)}, {Name: longName(256)}, {Name: longName(300)},
		{Name: many(api.MaxLabel+1, 'a')}, {Name: strings.Repeat("a.", 40000) + "a"},
	}
	bothPut(t, func(what string, put func(int, api.Dest) ([]byte, api.Errno), read reader) {
		for _, h := range hosts {
			for _, port := range []int{0, 80, 65535} {
				b, e := put(1, api.Dest{Host: h, Port: port})
				wantNone(t, fmt.Sprintf("Put%s of %.80q, %v", what, h.Name, h.Addr), b, e)
			}
		}
	})
}

// 7.2, 7.3: choices and verdicts of every byte.
func TestPutPairs(t *testing.T) {
	for word := range 256 {
		b, e := five.PutChoice(word)
		wantPut(t, "Choice", b, e, string([]byte{5, byte(word)}), readChoice, said{word: word})
		b, e = five.PutVerdict(word)
		wantPut(t, "Verdict", b, e, string([]byte{1, byte(word)}), readVerdict, said{word: word})
	}
}
