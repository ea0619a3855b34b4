package digest_test

import (
	"encoding/hex"
	"math/rand"
	"strings"
	"testing"

	"sallyport/api"
	"sallyport/digest"
)

// some is 64 digits, each of the sixteen among them.
const some = "0123456789abcdef00ff10f09a8b7c6de5d4c3b2a1908f7e6d5c4b3a29180fee"

// wantParse holds Parse against the bytes that are right.
func wantParse(t *testing.T, text string, want [32]byte) {
	t.Helper()
	if got, e := digest.Parse(text); got != want || e != api.OK {
		t.Errorf("Parse(%q): %x, error %d, want %x", text, got, e, want)
	}
}

// wantParseRefused wants no byte told of what is refused.
func wantParseRefused(t *testing.T, text string) {
	t.Helper()
	if got, e := digest.Parse(text); got != ([32]byte{}) || e != api.ErrArg {
		t.Errorf("Parse(%q): %x, error %d, want 32 bytes 0, error %d", text, got, e, api.ErrArg)
	}
}

// isDigit is what the chapter's error says, said plainly.
func isDigit(b byte) bool {
	return strings.IndexByte("0123456789abcdef", b) >= 0
}

// with is some with a byte at a place.
func with(at int, b byte) string {
	return some[:at] + string([]byte{b}) + some[at+1:]
}

// 4.2, 4.5: each value of a byte at each place: two small digits, that lead back.
func TestHexOfAllValues(t *testing.T) {
	for at := range 32 {
		for value := range 256 {
			var s [32]byte
			s[at] = byte(value)
			got := digest.Hex(s)
			if want := hex.EncodeToString(s[:]); got != want {
				t.Errorf("Hex: %s, want %s", got, want)
			}
			wantParse(t, got, s)
		}
	}
}

// 4.2: Hex by its text, not by another way of making it.
func TestHexByText(t *testing.T) {
	var s, high [32]byte
	for i := range s {
		s[i], high[i] = byte(i), byte(255-i)
	}
	for text, of := range map[string][32]byte{
		strings.Repeat("0", 64): {},
		"000102030405060708090a0b0c0d0e0f101112131415161718191a1b1c1d1e1f": s,
		"fffefdfcfbfaf9f8f7f6f5f4f3f2f1f0efeeedecebeae9e8e7e6e5e4e3e2e1e0": high,
	} {
		if got := digest.Hex(of); got != text {
			t.Errorf("Hex: %s, want %s", got, text)
		}
		wantParse(t, text, of)
	}
}

// 4.5: any bytes lead back, and any text that is taken.
func TestThereAndBack(t *testing.T) {
	r := rand.New(rand.NewSource(5))
	for range 2000 {
		var s [32]byte
		r.Read(s[:])
		wantParse(t, digest.Hex(s), s)
		text := make([]byte, 64)
		for i := range text {
			text[i] = "0123456789abcdef"[r.Intn(16)]
		}
		got, e := digest.Parse(string(text))
		if e != api.OK || digest.Hex(got) != string(text) {
			t.Errorf("Parse(%q): %x, error %d, which leads not back", text, got, e)
		}
	}
}

// 4.2: 64 bytes, no fewer and no more.
func TestParseLengths(t *testing.T) {
	all := strings.Repeat(some, 3)
	for n := range len(all) + 1 {
		if n != 64 {
			wantParseRefused(t, all[:n])
			wantParseRefused(t, strings.Repeat("0", n))
		}
	}
	wantParseRefused(t, strings.Repeat("0", 1<<20))
	for _, text := range []string{
		" " + some, some + " ", some + "\n", "0x" + some, some + "\x00", " " + some[1:], some[:63] + "\n", "0x" + some[2:], some[:63] + "\x00", "+" + some[1:], "-" + some[1:],
	} {
		wantParseRefused(t, text)
	}
	wantParse(t, strings.Repeat("0", 64), [32]byte{})
}

// 4.2: each byte at each place: the sixteen digits are taken, all others are refused.
func TestParseEachByte(t *testing.T) {
	for at := range 64 {
		for value := range 256 {
			text := with(at, byte(value))
			if !isDigit(byte(value)) {
				wantParseRefused(t, text)
				continue
			}
			var want [32]byte
			hex.Decode(want[:], []byte(text))
			wantParse(t, text, want)
		}
	}
}

// 4.2: signs next to the digits and the letters, at the first, a middle and the last place.
func TestParseNeighbours(t *testing.T) {
	for _, at := range []int{0, 1, 31, 32, 62, 63} {
		for _, sign := range []byte("/:`g@GAF") {
			wantParseRefused(t, with(at, sign))
		}
	}
}

// 4.2: great letters are no digits.
func TestParseGreatLetters(t *testing.T) {
	wantParseRefused(t, strings.ToUpper(some))
	wantParseRefused(t, strings.Repeat("A", 64))
	wantParseRefused(t, strings.Repeat("a", 63)+"A")
}

// 4.2: a text is bytes: other signs for digits are none, however many signs or bytes they come to.
func TestParseOtherSigns(t *testing.T) {
	for _, sign := range []string{"é", "０", "\U0001d7ce", "\xff"} {
		wantParseRefused(t, strings.Repeat(sign, 64))
		wantParseRefused(t, strings.Repeat(sign, 64/len(sign))+some[:64%len(sign)])
		wantParseRefused(t, some[:64-len(sign)]+sign)
		wantParseRefused(t, some[:63]+sign)
	}
}
