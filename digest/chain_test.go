package digest_test

import (
	"fmt"
	"math/rand"
	"slices"
	"strings"
	"testing"

	"sallyport/digest"
)

// pair is what a link of a chain is made of.
type pair struct {
	last [32]byte
	text string
}

// listed is the bytes that 4.3 names.
func listed(p pair) []byte {
	n := len(p.text)
	return slices.Concat(p.last[:], []byte{byte(n >> 24), byte(n >> 16), byte(n >> 8), byte(n)}, []byte(p.text))
}

// unlisted is the one pair whose bytes they are.
func unlisted(b []byte) pair {
	return pair{last: [32]byte(b[:32]), text: string(b[36:])}
}

// lasts are some digests: of no bytes set, of all, and of some.
func lasts() [][32]byte {
	var all, first, end [32]byte
	for i := range all {
		all[i] = 0xff
	}
	first[0], end[31] = 1, 1
	return [][32]byte{{}, all, first, end, digest.Sum(), digest.Sum([]byte("abc"))}
}

// 4.3: texts of all lengths round which a byte of the number turns, or a block ends.
func TestChain(t *testing.T) {
	for _, n := range []int{0, 1, 2, 19, 20, 27, 28, 29, 83, 84, 92, 255, 256, 257, 5000, 65535, 65536, 65537} {
		text := string(message(n))
		for _, last := range lasts() {
			wantDigest(t, fmt.Sprintf("Chain of %d bytes", n), digest.Chain(last, text), listed(pair{last, text}))
		}
	}
}

// 4.3: the number has four bytes, and three would not do.
func TestChainLong(t *testing.T) {
	text := strings.Repeat("a", 1<<24+3)
	wantDigest(t, "Chain of 1 << 24 + 3 bytes", digest.Chain([32]byte{}, text), listed(pair{text: text}))
}

// 4.3: written out: 32 bytes 0, the number, the text.
func TestChainByBytes(t *testing.T) {
	var last [32]byte
	wantDigest(t, "Chain of no byte", digest.Chain(last, ""), make([]byte, 36))
	wantDigest(t, "Chain of abc", digest.Chain(last, "abc"), append(make([]byte, 35), 3, 'a', 'b', 'c'))
	wantText(t, "Chain of no byte", digest.Chain(last, ""), "6db65fd59fd356f6729140571b5bcd6bb3b83492a16e1bf0a3884442fc3c8a0e")
}

// 4.3: a text is bytes, whatever signs they come to.
func TestChainAnyBytes(t *testing.T) {
	for _, text := range []string{"\x00", "\x00\x00\x00\x00", "\xff\xfe", "é", "\n", "\x80", strings.Repeat("\xff", 300)} {
		wantDigest(t, "Chain", digest.Chain(digest.Sum(), text), listed(pair{digest.Sum(), text}))
	}
}

// 4.3: last is not changed, and Chain tells the same each time: nothing is kept from call to call.
func TestChainAgain(t *testing.T) {
	last := digest.Sum([]byte("abc"))
	was, want := last, digest.Chain(last, "text")
	for range 3 {
		digest.Chain(digest.Sum(), "another")
		if got := digest.Chain(last, "text"); got != want || last != was {
			t.Errorf("Chain: %x of %x, want %x of %x", got, last, want, was)
		}
	}
}

// pairs are such that are near each other: bytes moved over from one part to the next, a number that stands in the text, bytes 0 more or fewer.
func pairs() []pair {
	texts := []string{
		"", "\x00", "\x00\x00", "\x00\x00\x00\x00", "\x00\x00\x00\x01", "\x00\x00\x00\x01a", "\x00\x00\x00\x00a", "a", "aa", "a\x00", "\x00a", "b", "\x01", "\x04",
		strings.Repeat("\x00", 32), strings.Repeat("\x00", 36), strings.Repeat("a", 255), strings.Repeat("a", 256), strings.Repeat("a", 65536),
	}
	var ps []pair
	for _, last := range lasts() {
		for _, text := range texts {
			ps = append(ps, pair{last, text})
		}
	}
	return ps
}

// 4.6: the bytes that Chain digests lead back to their pair, so that no two pairs give the same ones.
func TestNoTwoPairs(t *testing.T) {
	seen := map[[32]byte]pair{}
	for _, p := range pairs() {
		b := listed(p)
		if unlisted(b) != p {
			t.Errorf("%x leads not back to its pair", b)
		}
		got := digest.Chain(p.last, p.text)
		wantDigest(t, "Chain", got, b)
		if other, found := seen[got]; found {
			t.Errorf("Chain of %x, %q is that of %x, %q", p.last, p.text, other.last, other.text)
		}
		seen[got] = p
	}
}

// 4.3, 4.6: any pairs.
func TestAnyPairs(t *testing.T) {
	r := rand.New(rand.NewSource(6))
	for range 500 {
		var p pair
		r.Read(p.last[:])
		p.text = string(message(r.Intn(600)))
		wantDigest(t, "Chain", digest.Chain(p.last, p.text), listed(p))
		if unlisted(listed(p)) != p {
			t.Errorf("%x leads not back to its pair", listed(p))
		}
	}
}
