package store_test

import (
	"fmt"
	"slices"
	"strings"
	"testing"

	"sallyport/api"
	"sallyport/store"
)

// 14.1, P1, P2: each row of arguments, right and wrong ones, several wrong at once among them: ErrArg goes ahead of ErrLong, that ahead of ErrFull, and nothing is changed by any of them.
func TestPutArguments(t *testing.T) {
	nows := append([]int{0, mid, api.MaxTick - 1, api.MaxTick}, wrongNows...)
	keys := append([]string{"a", "z", long(maxKey - 1), long(maxKey)}, wrongKeys...)
	ages := append([]int{1, 2, api.MaxAge - 1, api.MaxAge}, wrongAges...)
	counts := []int{0, 1, 98, 99, 100, 101, api.MaxBytes + 1}
	for _, x := range []*store.Store{made(t, 0, 99), made(t, 2, 99), laid(t, "a* - b<", 1), laid(t, "a* b* c", 1)} {
		before := stands(x)
		for _, now := range nows {
			for _, key := range keys {
				for _, age := range ages {
					for _, count := range counts {
						wrong := slices.Contains(wrongNows, now) || slices.Contains(wrongKeys, key) || slices.Contains(wrongAges, age)
						tryPut(t, x, now, key, strings.Repeat("b", count), age, wrong)
					}
				}
			}
		}
		if after := stands(x); after != before {
			t.Errorf("Puts that are refused, and those on clones, change the store: %s, was %s", after, before)
		}
	}
}

// tryPut puts on a clone where that is not refused.
func tryPut(t *testing.T, x *store.Store, now int, key, text string, age int, wrong bool) {
	t.Helper()
	switch {
	case wrong:
		wantPut(t, x, now, key, text, age, api.ErrArg)
	case len(text) > 99:
		wantPut(t, x, now, key, text, age, api.ErrLong)
	case len(x.Keys()) == 0:
		wantPut(t, x, now, key, text, age, api.ErrFull)
	default:
		c := x.Clone()
		put(t, c, now, key, text, age)
		wantGet(t, c, now, key, text, 0)
	}
}

// P2: each refusal by itself leaves all as it was, that of a key that is there too.
func TestRefusedPut(t *testing.T) {
	for _, x := range someStores(t) {
		for _, key := range []string{"a", "b", "other"} {
			for _, now := range wrongNows {
				wantKept(t, "a wrong now", x, func() { wantPut(t, x, now, key, "", 5, api.ErrArg) })
			}
			for _, age := range wrongAges {
				wantKept(t, "a wrong age", x, func() { wantPut(t, x, mid, key, "", age, api.ErrArg) })
			}
			wantKept(t, "too many bytes", x, func() { wantPut(t, x, mid, key, strings.Repeat("b", 100), 5, api.ErrLong) })
		}
		for _, key := range wrongKeys {
			wantKept(t, "a wrong key", x, func() { wantPut(t, x, mid, key, "", 5, api.ErrArg) })
		}
	}
}

// 14.1, 14.4: just Keep bytes are taken, and not one more.
func TestKeep(t *testing.T) {
	for _, keep := range []int{0, 1, 2, 9, 1024, api.MaxBytes - 1, api.MaxBytes} {
		x := made(t, 2, keep)
		text := strings.Repeat("x", keep)
		put(t, x, 0, "a", "", 5)
		wantGet(t, x, 0, "a", "", 0)
		put(t, x, 0, "a", text, 5)
		wantGet(t, x, 0, "a", text, 0)
		put(t, x, 0, "b", text[:keep/2], 5)
		wantGet(t, x, 0, "b", text[:keep/2], 0)
		for _, more := range []int{1, 2, api.MaxBytes + 1} {
			wantPut(t, x, 0, "a", text+strings.Repeat("y", more), 5, api.ErrLong)
			wantPut(t, x, 0, "c", text+strings.Repeat("y", more), 5, api.ErrLong)
		}
		wantGet(t, x, 0, "a", text, 0)
		wantKeys(t, x, "a", "b")
	}
}

// 14.1: a store without slots takes nothing; what is wrong is told ahead of that.
func TestNoSlots(t *testing.T) {
	for _, keep := range []int{0, 9, api.MaxBytes} {
		x := made(t, 0, keep)
		text := strings.Repeat("x", keep)
		wantPut(t, x, 0, "a", text, 1, api.ErrFull)
		wantPut(t, x, api.MaxTick, long(maxKey), "", api.MaxAge, api.ErrFull)
		wantPut(t, x, 0, "a", text+"x", 1, api.ErrLong)
		wantPut(t, x, -1, "a", text+"x", 1, api.ErrArg)
		wantPut(t, x, 0, "", text, 1, api.ErrArg)
		wantPut(t, x, 0, "a", text, 0, api.ErrArg)
		wantNoGet(t, x, 0, "a", api.ErrNone)
		wantNoGet(t, x, -1, "a", api.ErrArg)
		wantNoGet(t, x, 0, "", api.ErrArg)
		wantDrop(t, x, "a", false)
		wantDrop(t, x, "", false)
		wantKeys(t, x)
		wantUsed(t, x, 0)
		wantHand(t, x, 0)
	}
}

// 14.1: keys and bytes are any bytes, and only the same bytes are the same key.
func TestKeysAreBytes(t *testing.T) {
	list := []string{"a", "A", "b", "aa", "a.", ".a", " a", " ", "a\x00", "\x00", "\xff", "é", "e\u0301", long(maxKey - 1), long(maxKey), "m" + long(maxKey-1), long(maxKey-1) + "m"}
	x := made(t, len(list), 99)
	for i, key := range list {
		put(t, x, i, key, fmt.Sprint("\x00\xff", i), 99)
	}
	wantKeys(t, x, list...)
	for i, key := range list {
		wantGet(t, x, 50, key, fmt.Sprint("\x00\xff", i), 50-i)
	}
	for _, key := range []string{"B", "aA", "aaa", "\x01", "  ", long(maxKey - 2)} {
		wantNoGet(t, x, 50, key, api.ErrNone)
		wantDrop(t, x, key, false)
	}
	for i, key := range list {
		wantDrop(t, x, key, true)
		wantUsed(t, x, len(list)-1-i)
	}
}

// place is a Put of a key at mid: how the store stands ahead of it and behind it.
type place struct {
	slots string
	hand  int
	key   string
	want  string
	then  int
}

func (c place) run(t *testing.T) {
	t.Helper()
	x := laid(t, c.slots, c.hand)
	put(t, x, mid, c.key, textOf(c.key), age)
	wantWritten(t, x, c.want, c.then)
	wantGet(t, x.Clone(), mid, c.key, textOf(c.key), 0)
	if t.Failed() {
		t.Fatalf("above: %s, hand at %d, Put of %s", c.slots, c.hand, c.key)
	}
}

// 14.1: an entry of that key gives its slot, fresh or not, asked for or not, whatever is empty beside it; the new one was not asked for, and the hand stays.
func TestPutOfKeyThatIsThere(t *testing.T) {
	for _, c := range []place{
		{"a b", 0, "a", "a! b", 0},
		{"a b", 0, "b", "a b!", 0},
		{"a b", 1, "b", "a b!", 1},
		{"a* b*", 0, "a", "a! b*", 0},
		{"a* b*", 1, "a", "a! b*", 1},
		{"a<* b", 0, "a", "a! b", 0},
		{"a> b", 0, "a", "a! b", 0},
		{"a>* b<", 1, "b", "a>* b!", 1},
		{"a!* b", 1, "a", "a! b", 1},
		{"- a", 0, "a", "- a!", 0},
		{"- a<", 0, "a", "- a!", 0},
		{"- a>*", 0, "a", "- a!", 0},
		{"- - a* -", 0, "a", "- - a! -", 0},
		{"- - a* -", 3, "a", "- - a! -", 3},
		{"a< b< c d*", 2, "c", "a< b< c! d*", 2},
		{"a* b* c* d<", 0, "d", "a* b* c* d!", 0},
	} {
		c.run(t)
	}
	for _, slots := range []string{"a", "a*", "a<", "a>", "a<*"} {
		place{slots, 0, "a", "a!", 0}.run(t)
	}
}

// 14.1: else the first empty slot is taken, ahead of the hand or behind it, though others are not fresh; the hand stays, and goes by nothing.
func TestPutIntoEmptySlot(t *testing.T) {
	for _, c := range []place{
		{"- -", 0, "x", "x! -", 0},
		{"- -", 1, "x", "x! -", 1},
		{"a -", 0, "x", "a x!", 0},
		{"- a", 1, "x", "x! a", 1},
		{"a* - b* - c*", 0, "x", "a* x! b* - c*", 0},
		{"a* - b* - c*", 2, "x", "a* x! b* - c*", 2},
		{"a* - b* - c*", 4, "x", "a* x! b* - c*", 4},
		{"a< b< -", 0, "x", "a< b< x!", 0},
		{"a<* b> - c -", 0, "x", "a<* b> x! c -", 0},
		{"a* b* c* d* -", 2, "x", "a* b* c* d* x!", 2},
		{"- a* b*", 2, "x", "x! a* b*", 2},
	} {
		c.run(t)
	}
	place{"-", 0, "x", "x!", 0}.run(t)
}

// 14.1, 14.5: in a full store the hand takes away the first that is not both fresh and asked for; what it went by is not asked for any more, and it goes on by one.
func TestPutByHand(t *testing.T) {
	for _, c := range []place{
		// None was asked for: the one under the hand goes.
		{"a b c", 0, "x", "x! b c", 1},
		{"a b c", 1, "x", "a x! c", 2},
		{"a b c", 2, "x", "a b x!", 0},
		// Some were.
		{"a* b c", 0, "x", "a x! c", 2},
		{"a* b* c", 0, "x", "a b x!", 0},
		{"a* b c*", 0, "x", "a x! c*", 2},
		{"a b* c*", 0, "x", "x! b* c*", 1},
		{"a b* c", 1, "x", "a b x!", 0},
		{"a b* c*", 1, "x", "x! b c", 1},
		{"a* b* c", 1, "x", "a* b x!", 0},
		{"a* b c*", 1, "x", "a* x! c*", 2},
		{"a b c*", 2, "x", "x! b c", 1},
		{"a* b c*", 2, "x", "a x! c", 2},
		{"a* b* c", 2, "x", "a* b* x!", 0},
		// All were: the hand comes round to where it stood, and takes that.
		{"a* b*", 0, "x", "x! b", 1},
		{"a* b*", 1, "x", "a x!", 0},
		{"a* b* c*", 0, "x", "x! b c", 1},
		{"a* b* c*", 1, "x", "a x! c", 2},
		{"a* b* c*", 2, "x", "a b x!", 0},
		// What was asked for, and is not fresh, goes, and whether it was asked for stays with what the hand did not come to.
		{"a<* b* c*", 0, "x", "x! b* c*", 1},
		{"a* b<* c*", 0, "x", "a x! c*", 2},
		{"a* b* c<*", 0, "x", "a b x!", 0},
		{"a* b<* c*", 2, "x", "a x! c", 2},
		{"a<* b<* c<*", 1, "x", "a<* x! c<*", 2},
		{"a< b* c", 1, "x", "a< b x!", 0},
		{"a* b* c<", 1, "x", "a* b x!", 0},
		// So does what was put later than now is.
		{"a>* b* c*", 0, "x", "x! b* c*", 1},
		{"a* b>* c*", 0, "x", "a x! c*", 2},
		{"a* b* c>*", 2, "x", "a* b* x!", 0},
		{"a>* b>*", 1, "x", "a>* x!", 0},
		{"a* b> c*", 2, "x", "a x! c", 2},
		// What was put at this very now is fresh.
		{"a!* b! c", 0, "x", "a! x! c", 2},
		{"a!* b!*", 1, "x", "a! x!", 0},
	} {
		c.run(t)
	}
}

// 14.1: a store of one slot has but the last entry, however often it was asked for.
func TestOneSlot(t *testing.T) {
	for _, slots := range []string{"a", "a*", "a<", "a<*", "a>", "a>*", "a!*"} {
		place{slots, 0, "x", "x!", 0}.run(t)
	}
	x := made(t, 1, 99)
	for i := range 20 {
		key := fmt.Sprint("k", i)
		put(t, x, i, key, textOf(key), age)
		wantKeys(t, x, key)
		wantHand(t, x, 0)
		for range i % 3 {
			wantGet(t, x, i+1, key, textOf(key), 1)
		}
	}
}

// 14.1, 14.5: whether an entry is fresh is told at the now of the Put: at the last tick at which it is the hand goes by, at the next one it does not.
func TestHandAtLastTick(t *testing.T) {
	for _, c := range []struct {
		now  int
		want string
	}{
		{0, "x"}, {mid - 11, "x"}, {mid - 10, "a"}, {mid, "a"}, {mid + 9, "a"}, {mid + 10, "x"}, {api.MaxTick, "x"},
	} {
		x := laid(t, "a* b", 0)
		put(t, x, c.now, "x", "", 1)
		if c.want == "a" {
			wantKeys(t, x, "a", "x")
		} else {
			wantKeys(t, x, "x", "b")
		}
	}
	for _, life := range []int{1, 2, api.MaxAge} {
		for _, later := range []int{0, life - 1, life} {
			x := made(t, 2, 9)
			put(t, x, 7, "a", "", life)
			put(t, x, 7, "b", "", life)
			wantGet(t, x, 7, "a", "", 0)
			put(t, x, 7+later, "c", "", 1)
			if later < life {
				wantKeys(t, x, "a", "c")
			} else {
				wantKeys(t, x, "c", "b")
			}
		}
	}
}

// 14.1: row by row the hand goes round, and takes away in the order of the slots.
func TestHandGoesRound(t *testing.T) {
	x := laid(t, "a b c", 0)
	for _, c := range []struct {
		key, want string
		hand      int
	}{
		{"d", "d! b c", 1},
		{"e", "d! e! c", 2},
		{"f", "d! e! f!", 0},
		{"g", "g! e! f!", 1},
	} {
		put(t, x, mid, c.key, textOf(c.key), age)
		wantWritten(t, x, c.want, c.hand)
	}
	wantGet(t, x, mid, "e", textOf("e"), 0)
	put(t, x, mid, "h", textOf("h"), age)
	wantWritten(t, x, "g! e! h!", 0)
	wantGet(t, x, mid, "g", textOf("g"), 0)
	wantGet(t, x, mid, "h", textOf("h"), 0)
	put(t, x, mid, "i", textOf("i"), age)
	wantWritten(t, x, "g! i! h!*", 2)
	put(t, x, mid, "j", textOf("j"), age)
	wantWritten(t, x, "j! i! h!", 1)
}
