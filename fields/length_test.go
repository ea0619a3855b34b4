package fields_test

import (
	"testing"

	"sallyport/api"
)

// wrongLengths are values of Content-Length that are none.
var wrongLengths = []string{"", " ", "00", "01", "05", "0000000", "0000001", "00000000", "10000000", "12345678", "99999999", "4294967297", "18446744073709551617",
	" 5", "5 ", "\t5", "5\t", "5 5", "5,5", "5, 5", "5,", "+5", "-5", "+0", "-0", "-", "+", "5a", "a5", "x", "0x5", "5.0", "5e1", "5_0", "5;", "\"5\"", "5\x00", "5\r", "\n5", "\u0665", "\xff", "/", ":"}

// 13.3: one field Content-Length with 1 to 7 digits, whatever the size of its name's letters.
func TestLengths(t *testing.T) {
	for _, name := range sizes("Content-Length") {
		for value, want := range map[string]int{"0": 0, "1": 1, "5": 5, "9": 9, "10": 10, "123": 123, "999999": 999999, "1000000": 1000000, "1048576": 1048576, "1048577": 1048577, "9999999": 9999999} {
			wantLength(t, list(name, value), want)
			wantLength(t, list("Host", "a", name, value, "", "7", "Content-Lengths", "8"), want)
		}
		for _, value := range wrongLengths {
			wantNoLength(t, list(name, value))
			wantNoLength(t, list("Host", "a", name, value, "X", "5"))
		}
		wantNoLength(t, list(name+"s", "5", name[1:], "5", "X-"+name, "5", name[:13], "5", name+" ", "5"))
	}
	wantNoLength(t, nil)
	wantNoLength(t, []api.Field{})
	wantNoLength(t, list("Host", "5", "", "5", "Length", "5"))
}

// 13.3: each byte at each place of a value.
func TestLengthBytes(t *testing.T) {
	for c := range 256 {
		digit := c - '0'
		switch {
		case digit < 0 || digit > 9:
			for _, value := range []string{one(c), one(c) + "1", "1" + one(c), "1" + one(c) + "1"} {
				wantNoLength(t, list("Content-Length", value))
			}
			continue
		case digit == 0:
			wantNoLength(t, list("Content-Length", "01"))
		default:
			wantLength(t, list("Content-Length", one(c)+"1"), 10*digit+1)
		}
		wantLength(t, list("Content-Length", one(c)), digit)
		wantLength(t, list("Content-Length", "1"+one(c)), 10+digit)
		wantLength(t, list("Content-Length", "1"+one(c)+"1"), 101+10*digit)
	}
}

// 13.3: of two fields none counts, though they be the same, and though one be wrong.
func TestTwoLengths(t *testing.T) {
	for _, name := range sizes("Content-Length") {
		for _, value := range append(wrongLengths, "5", "6", "0") {
			wantNoLength(t, list("Content-Length", "5", name, value))
			wantNoLength(t, list(name, value, "X", "1", "Content-Length", "5"))
			wantNoLength(t, list(name, value, name, value, name, value))
		}
	}
}

// 13.3: beside a field Transfer-Encoding there is no length, wherever it stands and whatever it says.
func TestLengthAndTransferEncoding(t *testing.T) {
	for _, name := range sizes("Transfer-Encoding") {
		for _, value := range []string{"", "chunked", "identity", "0", "\x00"} {
			for _, length := range []string{"0", "5", "x"} {
				wantNoLength(t, list(name, value, "Content-Length", length))
				wantNoLength(t, list("Content-Length", length, name, value))
				wantNoLength(t, list(name, value, "X", "1", "content-length", length, "Y", "2", name, value))
			}
			wantNoLength(t, list(name, value))
		}
		wantLength(t, list(name+"s", "chunked", "Content-Length", "5", "X"+name, "chunked", name[1:], "chunked"), 5)
	}
	wantLength(t, list("Content-Length", "5", "Content-Encoding", "gzip", "TE", "chunked", "Tran\u017ffer-Encoding", "x"), 5)
}

// 13.3: nothing bounds the list.
func TestLengthOfLongLists(t *testing.T) {
	for _, n := range []int{63, 64, 65, api.MaxItems + 1} {
		for _, at := range []int{0, n / 2, n} {
			l := put(numbered(n), at, list("Content-Length", "5")...)
			wantLength(t, l, 5)
			wantNoLength(t, put(l, len(l), list("Content-Length", "5")...))
			wantNoLength(t, put(l, len(l), list("Transfer-Encoding", "")...))
		}
	}
}
