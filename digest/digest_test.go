package digest_test

import (
	"bytes"
	"crypto/sha256"
	"math/rand"
	"slices"
	"strings"
	"testing"

	"sallyport/digest"
)

// edges are numbers of bytes round the ends of blocks, and of what the byte 80 and the number of bits leave of one.
var edges = []int{0, 1, 2, 31, 32, 54, 55, 56, 57, 62, 63, 64, 65, 118, 119, 120, 121, 127, 128, 129, 183, 184, 192, 4095, 4096, 5000}

// message is n bytes, all values among them, that do not repeat from block to block.
func message(n int) []byte {
	b := make([]byte, n)
	rand.New(rand.NewSource(int64(n))).Read(b)
	return b
}

// added is a Digest to which pieces were added.
func added(pieces ...[]byte) *digest.Digest {
	d := digest.New()
	for _, piece := range pieces {
		d.Add(piece)
	}
	return d
}

// wantDigest holds a digest against the library's of the whole message.
func wantDigest(t *testing.T, what string, got [32]byte, whole []byte) {
	t.Helper()
	if want := sha256.Sum256(whole); got != want {
		t.Errorf("%s: %x, want %x", what, got, want)
	}
}

// wantText holds a digest against the text that is published for it.
func wantText(t *testing.T, what string, got [32]byte, want string) {
	t.Helper()
	if digest.Hex(got) != want {
		t.Errorf("%s: %s, want %s", what, digest.Hex(got), want)
	}
}

// published are messages and their digests that others worked out: the chapter's example, then those given along with FIPS 180-4.
func published() []struct{ message, sum string } {
	return []struct{ message, sum string }{
		{"", "e3b0c44298fc1c149afbf4c8996fb92427ae41e4649b934ca495991b7852b855"},
		{"abc", "ba7816bf8f01cfea414140de5dae2223b00361a396177a9cb410ff61f20015ad"},
		{"abcdbcdecdefdefgefghfghighijhijkijkljklmklmnlmnomnopnopq", "248d6a61d20638b8e5c026930c3e6039a33ce45964ff2167f6ecedd419db06c1"},
		{strings.Repeat("a", 1000000), "cdc76e5c9914fb9281a1c7e284d73e67f1809a48a497200e046d39ccc7112cd0"},
	}
}

// 4.1: the chapter's example, and other messages whose digests are published.
func TestPublished(t *testing.T) {
	for _, p := range published() {
		wantText(t, "Sum", digest.Sum([]byte(p.message)), p.sum)
		wantText(t, "New, Add, Sum", added([]byte(p.message)).Sum(), p.sum)
	}
	wantText(t, "Sum of no part", digest.Sum(), published()[0].sum)
	wantText(t, "New, Sum", digest.New().Sum(), published()[0].sum)
}

// 4.1: messages of all numbers of bytes round the ends of blocks.
func TestEdges(t *testing.T) {
	for _, n := range edges {
		m := message(n)
		wantDigest(t, "Sum", digest.Sum(m), m)
		wantDigest(t, "New, Add, Sum", added(m).Sum(), m)
	}
}

// 4.1: each number of bytes up to some blocks, of bytes that are all alike: only how many there are tells them apart.
func TestEachLength(t *testing.T) {
	for _, fill := range []byte{0x00, 0x80, 0xff} {
		for n := range 5*64 + 2 {
			m := bytes.Repeat([]byte{fill}, n)
			wantDigest(t, "Sum", digest.Sum(m), m)
		}
	}
}

// 4.1: each bit of a message counts.
func TestEachBit(t *testing.T) {
	for at := range 130 * 8 {
		m := make([]byte, 130)
		m[at/8] = 1 << (at % 8)
		wantDigest(t, "Sum", digest.Sum(m), m)
	}
}

// 4.1: the number of bits stands in eight bytes, and four would not do.
func TestManyBits(t *testing.T) {
	const piece, pieces = 1 << 20, 1<<9 + 1
	m := message(piece)
	d, want := digest.New(), sha256.New()
	for range pieces {
		d.Add(m)
		want.Write(m)
	}
	if got := d.Sum(); !bytes.Equal(got[:], want.Sum(nil)) {
		t.Errorf("Sum of %d bytes: %x, want %x", piece*pieces, got, want.Sum(nil))
	}
}

// 4.1, rule 3: Sum takes no part, one or several, empty and nil ones among them, and no list at all.
func TestParts(t *testing.T) {
	none, empty, a, long := []byte(nil), []byte{}, []byte("a"), message(200)
	for _, parts := range [][][]byte{
		nil, {}, {none}, {empty}, {none, empty, none},
		{a}, {a, a}, {a, none, a}, {empty, a}, {a, empty},
		{long}, {long, a, long}, {a, long, none, long, empty, a},
		{long[:64], long[64:128], long[128:]}, {long[:63], long[63:65], long[65:]},
	} {
		wantDigest(t, "Sum", digest.Sum(parts...), slices.Concat(parts...))
		wantDigest(t, "New, Add, Sum", added(parts...).Sum(), slices.Concat(parts...))
	}
	many := slices.Repeat([][]byte{a, none, long, empty}, 100)
	wantDigest(t, "Sum", digest.Sum(many...), slices.Concat(many...))
}

// 4.1: parts are one behind the other, not sorted and not mixed.
func TestOrderOfParts(t *testing.T) {
	a, b := []byte("ab"), []byte("ba")
	if digest.Sum(a, b) == digest.Sum(b, a) {
		t.Error("Sum of two parts is that of the parts turned round")
	}
	if digest.Sum(a, b) != digest.Sum([]byte("abb"), []byte("a")) {
		t.Error("Sum of two parts hangs on where they are cut")
	}
}

// 4.4: two pieces, cut anywhere, with empty ones among them.
func TestEachCut(t *testing.T) {
	for _, n := range []int{1, 55, 56, 57, 63, 64, 65, 119, 120, 128, 200} {
		m := message(n)
		for cut := range n + 1 {
			wantDigest(t, "New, Add, Sum", added(nil, m[:cut], []byte{}, nil, m[cut:], nil).Sum(), m)
			wantDigest(t, "Sum", digest.Sum(nil, m[:cut], []byte{}, m[cut:]), m)
		}
	}
}

// 4.4: pieces of one length each, up to more than two blocks.
func TestEachPiece(t *testing.T) {
	m := message(1000)
	for n := 1; n <= 130; n++ {
		wantDigest(t, "New, Add, Sum", added(slices.Collect(slices.Chunk(m, n))...).Sum(), m)
	}
}

// 4.4: any pieces, at each of which the digest of what was added so far is asked, more than once.
func TestAnyPieces(t *testing.T) {
	r := rand.New(rand.NewSource(4))
	for range 300 {
		m := message(r.Intn(6000))
		d := digest.New()
		for at := 0; at < len(m); {
			next := at + r.Intn(min(len(m)-at, 1<<r.Intn(13))+1)
			d.Add(m[at:next])
			at = next
			if r.Intn(4) == 0 {
				wantDigest(t, "Sum", d.Sum(), m[:at])
				wantDigest(t, "Sum again", d.Sum(), m[:at])
			}
		}
		wantDigest(t, "New, Add, Sum", d.Sum(), m)
		wantDigest(t, "Sum", digest.Sum(m), m)
	}
}

// 4.1: Sum may be asked at each place and as often as one likes; what is added then counts as if it had not been.
func TestSumThenMore(t *testing.T) {
	m := message(300)
	d := digest.New()
	for n := range m {
		for range 3 {
			wantDigest(t, "Sum", d.Sum(), m[:n])
		}
		d.Add(m[n : n+1])
	}
	wantDigest(t, "Sum", d.Sum(), m)
	for _, n := range edges {
		d := added(m[:100])
		d.Sum()
		d.Add(message(n))
		wantDigest(t, "Sum", d.Sum(), slices.Concat(m[:100], message(n)))
	}
}

// 4.1: a Digest tells nothing of what is added to another one.
func TestDigestsOfTheirOwn(t *testing.T) {
	a, b, empty := digest.New(), digest.New(), digest.New()
	m, other := message(500), message(501)
	for at := range m {
		a.Add(m[at : at+1])
		b.Add(other[at : at+1])
	}
	wantDigest(t, "the first", a.Sum(), m)
	wantDigest(t, "the second", b.Sum(), other[:500])
	wantDigest(t, "that of nothing", empty.Sum(), nil)
	wantDigest(t, "a new one", digest.New().Sum(), nil)
}

// 4.1, rule 2: a Digest that New did not make.
func TestNotMade(t *testing.T) {
	for _, d := range []*digest.Digest{nil, {}, new(digest.Digest)} {
		for _, b := range [][]byte{nil, {}, []byte("abc"), message(64), message(200)} {
			if got := d.Sum(); got != ([32]byte{}) {
				t.Errorf("Sum: %x, want 32 bytes 0", got)
			}
			d.Add(b)
			if got := d.Sum(); got != ([32]byte{}) {
				t.Errorf("Sum behind Add of %d bytes: %x, want 32 bytes 0", len(b), got)
			}
			if d != nil && *d != (digest.Digest{}) {
				t.Errorf("Add of %d bytes: it is another one", len(b))
			}
		}
	}
	if digest.New() == nil || *digest.New() == (digest.Digest{}) {
		t.Error("New: a Digest that New did not make")
	}
}

// Rule 4: bytes that are handed in are not changed, nor those behind them in the same memory.
func TestHandedInUnchanged(t *testing.T) {
	for _, n := range edges {
		whole := message(n + 100)
		was := slices.Clone(whole)
		d := added(whole[:n])
		d.Sum()
		d.Add(whole[n/2 : n])
		d.Sum()
		digest.Sum(whole[:n], whole[n/3:n])
		if !bytes.Equal(whole, was) {
			t.Errorf("a call changed the %d bytes that it was handed, or those behind them", n)
		}
	}
	parts := [][]byte{message(3), nil, message(70)}
	digest.Sum(parts...)
	if !bytes.Equal(parts[0], message(3)) || parts[1] != nil || !bytes.Equal(parts[2], message(70)) {
		t.Error("Sum changed the list of parts that it was handed")
	}
}

// Rule 4: bytes that are handed in are not kept: their owner may change them as soon as the call is over.
func TestHandedInNotKept(t *testing.T) {
	for _, n := range edges {
		m := message(n)
		handed := slices.Clone(m)
		d := added(handed)
		clear(handed)
		wantDigest(t, "Sum behind a change", d.Sum(), m)
		d.Add(m)
		wantDigest(t, "Sum behind a change and more", d.Sum(), slices.Concat(m, m))
	}
}

// Rule 4: what is handed out is the caller's own.
func TestHandedOut(t *testing.T) {
	d := added(message(100))
	got := d.Sum()
	clear(got[:])
	wantDigest(t, "Sum behind a change of what it told", d.Sum(), message(100))
}
