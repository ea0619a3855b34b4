package dns_test

import (
	"math"
	"strings"
	"testing"

	"sallyport/api"
	"sallyport/dns"
)

// 10.1: a name in one piece: its form, and where what stands behind it begins.
func TestName(t *testing.T) {
	wantName(t, "\x01a\x00", 0, "a", 3)
	wantName(t, "\x01a\x01b\x00", 0, "a.b", 5)
	wantName(t, "\x01a\x01b\x00", 2, "b", 5)
	wantName(t, "\x07ExAmPlE\x03COM\x00", 0, "example.com", 13)
	wantName(t, many(12, 0)+"\x01a\x01b\x00", 12, "a.b", 17)
	wantName(t, "\x011\x01a\x00", 0, "1.a", 5)
	wantName(t, "\x03a-b\x021a\x00", 0, "a-b.1a", 8)
	wantName(t, many(api.MaxGram, 0)+"\x01a\x00", api.MaxGram, "a", api.MaxGram+3)
}

// 10.1, example 2: two bytes that lead to where their name begins.
func TestNameLeadsToItself(t *testing.T) {
	wantNameRefused(t, many(12, 0)+"\xc0\x0c", 12, 12, api.ErrLoop)
}

// 10.1: a place where no byte is.
func TestNamePlaces(t *testing.T) {
	for _, b := range []string{"", "\x00", "\x01a\x00", "\x01a\x01b\x00", many(600, 0)} {
		for _, at := range []int{math.MinInt, -65536, -2, -1, len(b), len(b) + 1, len(b) + 2, 1 << 20, math.MaxInt - 1, math.MaxInt} {
			wantNameRefused(t, b, at, len(b), api.ErrShort)
		}
	}
	if name, behind, err := dns.Name(nil, 0); name != "" || behind != 0 {
		t.Errorf("Name of nil: %q, %d, %v", name, behind, err)
	} else {
		wantFault(t, "Name of nil", err, wrong{0, api.ErrShort})
	}
	wantNameRefused(t, "\x01a\x01b\x00", 4, 4, api.ErrHost)
	wantNameRefused(t, "\x01a\x01b\x00", 3, 3, api.ErrLabel)
	wantNameRefused(t, "\x01a\x01", 2, 3, api.ErrShort)
	wantName(t, "\x00\x01a\x00", 1, "a", 4)
}

// 10.1: each byte where a label's length must be: as a name's first one, and behind a label. The bytes behind it are no lengths, and lead nowhere.
func TestNameLengths(t *testing.T) {
	for c := range 256 {
		wantLength(t, "", "", c)
		wantLength(t, "\x01b", "b.", c)
		wantLength(t, "\x01b\x02cc", "b.cc.", c)
	}
}

// wantLength wants a byte to be taken for what it is behind these labels, whose text this is.
func wantLength(t *testing.T, ahead, text string, c int) {
	t.Helper()
	at, b := len(ahead), ahead+one(c)+many(63, 'a')+"\x00"
	switch {
	case c == 0 && at == 0:
		wantNameRefused(t, b, 0, 0, api.ErrHost)
	case c == 0:
		wantName(t, b[:at+1], 0, strings.TrimSuffix(text, "."), at+1)
	case c <= 63:
		wantName(t, b[:at+1+c]+"\x00", 0, text+many(c, 'a'), at+c+2)
	case c < 192:
		wantNameRefused(t, b, 0, at, api.ErrLabel)
		wantNameRefused(t, b[:at+1], 0, at, api.ErrLabel)
	default:
		wantNameRefused(t, b, 0, at, api.ErrLoop)
		wantNameRefused(t, b[:at+1], 0, at+1, api.ErrShort)
	}
}

// 10.1: labels of each length, whole and with one byte lacking, or more of them.
func TestNameLabelsCut(t *testing.T) {
	for n := 1; n <= api.MaxLabel; n++ {
		b := one(n) + many(n, 'a') + "\x00"
		wantName(t, b, 0, many(n, 'a'), n+2)
		for size := 1; size < len(b); size++ {
			wantNameRefused(t, b[:size], 0, size, api.ErrShort)
			wantNameRefused(t, "\x01b"+b[:size], 0, size+2, api.ErrShort)
		}
	}
	wantNameRefused(t, "\x40"+many(64, 'a')+"\x00", 0, 0, api.ErrLabel)
}

// 10.1: a label that is none, and is not whole: its bytes lack first.
func TestNameWrongLabelCut(t *testing.T) {
	wantNameRefused(t, "\x02-", 0, 2, api.ErrShort)
	wantNameRefused(t, "\x02-a", 0, 0, api.ErrLabel)
	wantNameRefused(t, "\x01a\x02a-", 0, 2, api.ErrLabel)
	wantNameRefused(t, "\x01a\x02a-\x80", 0, 2, api.ErrLabel)
	wantNameRefused(t, "\x01a\x01-\x02b", 0, 2, api.ErrLabel)
}

// isInner tells the bytes that a label may have within it.
func isInner(c int) bool {
	return strings.IndexByte("abcdefghijklmnopqrstuvwxyzABCDEFGHIJKLMNOPQRSTUVWXYZ0123456789-", byte(c)) >= 0
}

// 10.1: each byte as a label's first, inner, last and only one, in the first label and in a later one. A - may stand within it alone.
func TestNameEachByte(t *testing.T) {
	for c := range 256 {
		wantLabel(t, one(c)+"bx", isInner(c) && c != '-')
		wantLabel(t, "b"+one(c)+"x", isInner(c))
		wantLabel(t, "bx"+one(c), isInner(c) && c != '-')
		wantLabel(t, one(c), isInner(c) && c != '-')
	}
}

// wantLabel wants a label to be right, or refused.
func wantLabel(t *testing.T, label string, right bool) {
	t.Helper()
	first, later := labelled(label, "z"), labelled("z", label, "y")
	if !right {
		wantNameRefused(t, first, 0, 0, api.ErrLabel)
		wantNameRefused(t, later, 0, 2, api.ErrLabel)
		return
	}
	wantName(t, first, 0, strings.ToLower(label)+".z", len(first))
	wantName(t, later, 0, "z."+strings.ToLower(label)+".y", len(later))
}

// labelled is a name of these labels, which may have points within them.
func labelled(list ...string) string {
	text := ""
	for _, label := range list {
		text += one(len(label)) + label
	}
	return text + "\x00"
}

// 10.1: a point within a label is no byte of one, and does not cut it in two.
func TestNamePoints(t *testing.T) {
	for _, label := range []string{".", "a.b", "a.", ".a", "a.b.c", "1.2", "a..b"} {
		wantNameRefused(t, labelled(label), 0, 0, api.ErrLabel)
		wantNameRefused(t, labelled("x", label, "y"), 0, 2, api.ErrLabel)
	}
}

// 10.1: two bytes that lead elsewhere: the second one lacking.
func TestNameLeadCut(t *testing.T) {
	for c := 0xc0; c <= 0xff; c++ {
		wantNameRefused(t, one(c), 0, 1, api.ErrShort)
		wantNameRefused(t, "\x01a\x00"+one(c), 3, 4, api.ErrShort)
		wantNameRefused(t, "\x01a\x00\x01b"+one(c), 3, 6, api.ErrShort)
	}
}

// 10.1: where two bytes may lead to: ahead of where their piece begins, and nowhere else.
func TestNameLeads(t *testing.T) {
	b := "\x01x\x01y\x00" + "\x01a\x01b" // the name a.b.. begins at 5, b.. at 7, the two bytes stand at 9
	for at, text := range map[int]string{5: "a.b.", 7: "b."} {
		wantName(t, b+lead(0), at, text+"x.y", 11)
		wantName(t, b+lead(2), at, text+"y", 11)
		wantNameRefused(t, b+lead(1), at, 1, api.ErrLabel)
		for to := at; to < 16; to++ {
			wantNameRefused(t, b+lead(to)+many(20, 0), at, 9, api.ErrLoop)
		}
		wantNameRefused(t, b+"\xff\xff", at, 9, api.ErrLoop)
	}
	wantNameRefused(t, b+lead(5), 7, 9, api.ErrLoop) // the piece at 5 comes by the same two bytes
}

// 10.1: what leads to just one byte ahead of where its name begins.
func TestNameLeadsOneAhead(t *testing.T) {
	wantName(t, "\x01a\x00"+"\x01b"+lead(2), 3, "b", 7)
	wantNameRefused(t, "\x01a\x00"+"\x01b"+lead(3), 3, 5, api.ErrLoop)
	wantNameRefused(t, "\x01a\x00"+lead(2), 3, 3, api.ErrHost)
	wantNameRefused(t, "\x01a\x00"+lead(3), 3, 3, api.ErrLoop)
	wantName(t, "\x04"+"\x01a\x01b"+"\x00", 1, "a.b", 6)
	wantNameRefused(t, "\x02"+"\x01a"+lead(0), 1, 0, api.ErrLabel)
}

// 10.1: several that lead on from one another, with labels ahead of them and without: each must lead ahead of the piece that it stands in.
func TestNameLeadsOn(t *testing.T) {
	b := "\x01a\x00" + "\x01b" + lead(0) + lead(3) + "\x01c" + lead(7) + lead(9) + lead(13)
	wantName(t, b, 3, "b.a", 7)
	wantName(t, b, 7, "b.a", 9)
	wantName(t, b, 9, "c.b.a", 13)
	wantName(t, b, 13, "c.b.a", 15)
	wantName(t, b, 15, "c.b.a", 17)
	wantNameRefused(t, lead(0), 0, 0, api.ErrLoop)
	wantNameRefused(t, lead(0)+lead(0), 2, 0, api.ErrLoop)
	wantNameRefused(t, lead(2)+lead(0), 2, 0, api.ErrLoop)
	wantNameRefused(t, lead(4)+lead(0)+lead(2), 4, 0, api.ErrLoop)
	wantNameRefused(t, "\x01a"+lead(0)+"\x01b"+lead(0), 4, 2, api.ErrLoop)
	wantNameRefused(t, "\x01a\x01b"+lead(2)+lead(0), 6, 4, api.ErrLoop)
	wantNameRefused(t, "\x01a\x01b"+lead(2)+lead(2), 6, 4, api.ErrLoop)
}

// 10.1: a piece may run on into the piece that leads there; what stands there then belongs to the one that begins further ahead.
func TestNamePiecesThatRunOn(t *testing.T) {
	b := "\x01a\x01b\x01c" + lead(2) // c.. begins at 4 and leads to 2, whose piece comes by the same two bytes
	wantNameRefused(t, b, 4, 6, api.ErrLoop)
	wantNameRefused(t, b, 2, 6, api.ErrLoop)
	wantNameRefused(t, "\x03\x01a\xc0\x00", 1, 0, api.ErrLabel)
	wantName(t, "\x00\x02"+"\x01a"+"\x00", 2, "a", 5)
}

// 10.1: all 14 bits tell the place.
func TestNameLeadsFar(t *testing.T) {
	for bit := range 14 {
		to := 1 << bit
		b := many(to, 'x') + "\x01a\x00" + "\x01b" + lead(to)
		wantName(t, b, to+3, "b.a", to+7)
	}
	b := many(0x3fff, 'x') + "\x01a\x00" + "\xff\xff"
	wantName(t, b, 0x4002, "a", 0x4004)
	wantNameRefused(t, b, 0x4001, 0x4001, api.ErrHost)
}

// 10.1: names of 253 bytes, and of more, in one piece.
func TestNameLongest(t *testing.T) {
	for n := 240; n <= api.MaxName; n++ {
		wantName(t, whole(longName(n)), 0, longName(n), n+2)
		wantName(t, "\x00"+whole(longName(n)), 1, longName(n), n+3)
	}
	wantName(t, whole(strings.Repeat("a.", 126)+"b"), 0, strings.Repeat("a.", 126)+"b", 255)
	for n := api.MaxName + 1; n <= 300; n++ {
		wantNameRefused(t, whole(longName(n)), 0, 0, api.ErrHost)
		wantNameRefused(t, many(9, 0)+whole(longName(n)), 9, 9, api.ErrHost)
	}
	wantNameRefused(t, whole(strings.Repeat("a.", 127)+"b"), 0, 0, api.ErrHost)
}

// 10.1: names of 253 bytes, and of one more, in several pieces; what is wrong is told where the name begins, not a piece of it.
func TestNameLongestInPieces(t *testing.T) {
	for _, name := range []string{longName(api.MaxName), longName(api.MaxName + 1), strings.Repeat("a.", 126) + "b", strings.Repeat("a.", 126) + "bc"} {
		list := strings.Split(name, ".")
		for cut := 1; cut < len(list); cut++ {
			ahead, behind := strings.Join(list[:cut], "."), strings.Join(list[cut:], ".")
			b := "\x00" + whole(behind)
			at := len(b)
			b += labels(ahead) + lead(1)
			for _, more := range []string{"", lead(at)} { // as it is, and led to without labels
				begin := at
				if more != "" {
					begin = len(b)
				}
				if len(name) > api.MaxName {
					wantNameRefused(t, b+more, begin, begin, api.ErrHost)
				} else {
					wantName(t, b+more, begin, name, len(b+more))
				}
			}
		}
	}
}

// 10.1: a name is too long as soon as a label makes it so: whatever stands behind it, or lacks. Up to there what lacks, or is wrong, is told.
func TestNameTooLongAtOnce(t *testing.T) {
	b := whole(longName(api.MaxName + 1))
	for size := 1; size < len(b)-1; size++ {
		wantNameRefused(t, b[:size], 0, size, api.ErrShort)
	}
	for _, behind := range []string{"", "\x40", "\x80", "\xc0", lead(0), "\x01-", "\x02a", "\x00"} {
		wantNameRefused(t, b[:len(b)-1]+behind, 0, 0, api.ErrHost)
	}
	last := strings.LastIndex(longName(api.MaxName+1), ".")
	wantNameRefused(t, b[:len(b)-2]+"-\x00", 0, last+1, api.ErrLabel)
}

// 10.1: a name without labels.
func TestNameEmpty(t *testing.T) {
	wantNameRefused(t, "\x00", 0, 0, api.ErrHost)
	wantNameRefused(t, "\x00\x01a\x00", 0, 0, api.ErrHost)
	wantNameRefused(t, "\x00"+lead(0), 1, 1, api.ErrHost)
	wantNameRefused(t, "\x00"+lead(0)+lead(1), 3, 3, api.ErrHost)
	wantName(t, "\x00\x01a"+lead(0), 1, "a", 5)
}

// 10.1: a last label of digits alone; others may be.
func TestNameDigits(t *testing.T) {
	for _, name := range []string{"0", "9", "127", "10.0.0.1", "a.1", "a.b.007", "1.2", "a." + many(63, '5')} {
		b := whole(name)
		wantNameRefused(t, b, 0, 0, api.ErrHost)
		wantNameRefused(t, many(5, 0)+b, 5, 5, api.ErrHost)
		wantNameRefused(t, b+lead(0), len(b), len(b), api.ErrHost)
		wantNameRefused(t, b+"\x01z"+lead(0), len(b), len(b), api.ErrHost)
	}
	for _, name := range []string{"0.a", "10.0.0.1a", "a.1-1", "1.2.x", "9a", "a9"} {
		wantName(t, whole(name), 0, name, len(name)+2)
	}
	wantName(t, "\x01z\x00"+"\x015"+lead(0), 3, "5.z", 7)
}

// 10.1, 10.6: whatever two bytes lead to, they lead ahead of their piece, or are refused: gone through for all places of rows of them.
func TestNameRowsOfLeads(t *testing.T) {
	allOf("\x00\x02\x04\x06", 4, func(to string) {
		b := ""
		for _, place := range []byte(to) {
			b += lead(int(place))
		}
		for at := 0; at < len(b); at += 2 {
			place := at
			for int(to[place/2]) < place {
				place = int(to[place/2])
			}
			wantNameRefused(t, b, at, place, api.ErrLoop)
		}
	})
}

// 10.6: the longest row of bytes that lead on from one another ends.
func TestNameLongestRowOfLeads(t *testing.T) {
	b := "\x01a\x00"
	for to := 0; len(b)+2 <= 0x4000; to = len(b) - 2 {
		b += lead(to)
	}
	wantName(t, b, len(b)-2, "a", len(b))
	again := "\x01x"
	for to := 0; len(again)+2 <= 0x4000; to = len(again) - 2 {
		again += lead(to)
	}
	wantNameRefused(t, again, len(again)-2, 2, api.ErrLoop)
}
