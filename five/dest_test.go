package five_test

import (
	"fmt"
	"strings"
	"testing"

	"sallyport/api"
)

// both holds a test of a request against a reply too: they are of one shape.
func both(t *testing.T, hold func(what string, read reader)) {
	t.Helper()
	hold("Request", readRequest)
	hold("Reply", readReply)
}

// wantNameRefused wants a name to be refused as soon as all of it is there, and too short ahead of that.
func wantNameRefused(t *testing.T, name string, inner int, number api.Errno) {
	t.Helper()
	both(t, func(what string, read reader) {
		t.Helper()
		b := "\x05\x01\x00\x03" + counted(name)
		wantCuts(t, what, read, b)
		for _, behind := range []string{"", "\x00", "\x00P", "\x00Pmore", many(600, '-')} {
			got, err := read([]byte(b + behind))
			text := fmt.Sprintf("%s of the name %q with %d bytes behind it", what, name, len(behind))
			wantNameFault(t, text, err, 5, inner, number)
			wantNothing(t, text, got)
		}
	})
}

// 7.1, 7.4: addresses of four bytes, at every sort of port.
func TestAddresses(t *testing.T) {
	both(t, func(what string, read reader) {
		for _, port := range []int{0, 1, 255, 256, 80, 65280, 65535} {
			b := string([]byte{5, 1, 0, 1, 10, 0, 255, 7, byte(port / 256), byte(port % 256)})
			wantRead(t, what, read, b, said{word: 1, dest: at(10, 0, 255, 7, port)})
			wantCuts(t, what, read, b)
		}
		wantRead(t, what, read, "\x05\x00\x00\x01\x00\x00\x00\x00\x00\x00", said{})
		wantRead(t, what, read, "\x05\xff\x00\x01\xff\xff\xff\xff\xff\xff", said{word: 255, dest: at(255, 255, 255, 255, 65535)})
	})
}

// 7.1: every port is read, the higher byte first.
func TestAllPorts(t *testing.T) {
	both(t, func(what string, read reader) {
		for port := range 65536 {
			got, err := read([]byte{5, 1, 0, 3, 1, 'a', byte(port / 256), byte(port % 256)})
			if err != nil || got.dest != named("a", port) || got.size != 8 {
				t.Errorf("%s of port %d: %+v, %v", what, port, got, err)
			}
		}
	})
}

// 7.1: commands and codes may be any byte.
func TestWords(t *testing.T) {
	both(t, func(what string, read reader) {
		for word := range 256 {
			b := string([]byte{5, byte(word), 0, 3, 1, 'a', 0, 80})
			wantRead(t, what, read, b, said{word: word, dest: named("a", 80)})
		}
	})
}

// 7.1: a third byte that is not 0 is wrong, ahead of all behind it.
func TestThirdByte(t *testing.T) {
	both(t, func(what string, read reader) {
		for third := 1; third < 256; third++ {
			b := string([]byte{5, 1, byte(third)})
			wantRefused(t, what, read, b, 2, api.ErrWord)
			wantRefused(t, what, read, b+"\x04", 2, api.ErrWord)
			wantRefused(t, what, read, b+"\x01\x0a\x00\x00\x01\x00P", 2, api.ErrWord)
		}
	})
}

// 7.1: of all kinds of destinations but 1 and 3 the kind's byte is wrong, at once.
func TestKinds(t *testing.T) {
	both(t, func(what string, read reader) {
		for kind := range 256 {
			b := string([]byte{5, 1, 0, byte(kind)})
			if kind == 1 || kind == 3 {
				wantShort(t, what, read, b)
				continue
			}
			wantRefused(t, what, read, b, 3, api.ErrType)
			wantRefused(t, what, read, b+many(16, 0)+"\x00P", 3, api.ErrType)
		}
	})
}

// 7.1, 7.4: names of every length that a name may have, in any letters, and told in their form.
func TestNames(t *testing.T) {
	names := []string{"a", "Z", "1a", "a.b", "Example.COM", "A-1.b-2.C", "1.2.3.4a", "xn--a", longName(api.MaxName - 1), strings.ToUpper(longName(api.MaxName))}
	for n := 3; n <= api.MaxName; n++ {
		names = append(names, longName(n))
	}
	both(t, func(what string, read reader) {
		for _, name := range names {
			b := "\x05\x01\x00\x03" + counted(name) + "\x01\xbb"
			wantRead(t, what, read, b, said{word: 1, dest: named(strings.ToLower(name), 443)})
			wantCuts(t, what, read, b)
		}
	})
}

// 7.1: a name of no bytes, or of more than it may have, is wrong at its number of bytes, at once.
func TestNameLengths(t *testing.T) {
	both(t, func(what string, read reader) {
		for _, n := range []int{0, api.MaxName + 1, 255} {
			b := "\x05\x01\x00\x03" + string([]byte{byte(n)})
			wantRefused(t, what, read, b, 4, api.ErrWord)
			wantRefused(t, what, read, b+many(n, 'a')+"\x00P", 4, api.ErrWord)
		}
		for _, n := range []int{1, api.MaxName} {
			wantShort(t, what, read, "\x05\x01\x00\x03"+string([]byte{byte(n)}))
		}
	})
}

// 7.1: what is no name is refused by host's fault, at where the name's bytes begin.
func TestWrongNames(t *testing.T) {
	wantNameRefused(t, "-", 0, api.ErrLabel)
	wantNameRefused(t, "-a", 0, api.ErrLabel)
	wantNameRefused(t, "a-", 0, api.ErrLabel)
	wantNameRefused(t, "a..b", 2, api.ErrLabel)
	wantNameRefused(t, "a.b.", 4, api.ErrLabel)
	wantNameRefused(t, ".", 0, api.ErrLabel)
	wantNameRefused(t, "a.b_c.d", 2, api.ErrLabel)
	wantNameRefused(t, "a:80", 0, api.ErrLabel)
	wantNameRefused(t, "\x00", 0, api.ErrLabel)
	wantNameRefused(t, "a.\xff", 2, api.ErrLabel)
	wantNameRefused(t, "a."+many(api.MaxLabel+1, 'b'), 2, api.ErrLabel)
	wantNameRefused(t, many(api.MaxName, 'a'), 0, api.ErrLabel)
}

// 7.1: a name that looks like an address is none: addresses have a kind of their own.
func TestNamesLikeAddresses(t *testing.T) {
	wantNameRefused(t, "10.0.0.1", 7, api.ErrHost)
	wantNameRefused(t, "10.0.0.256", 7, api.ErrHost)
	wantNameRefused(t, "1", 0, api.ErrHost)
	wantNameRefused(t, "a.1", 2, api.ErrHost)
	wantNameRefused(t, "1.2.3.", 6, api.ErrLabel)
}
