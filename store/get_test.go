package store_test

import (
	"fmt"
	"testing"

	"sallyport/api"
)

// 14.2: an entry is fresh from its Put on, as long as it is not as old as its age; it is told how old it is.
func TestHowOld(t *testing.T) {
	for _, now := range []int{0, 1, 1000, api.MaxTick - api.MaxAge, api.MaxTick - 1, api.MaxTick} {
		for _, life := range []int{1, 2, 3, 100, api.MaxAge - 1, api.MaxAge} {
			x := made(t, 2, 9)
			put(t, x, now, "a", "text", life)
			for _, later := range []int{0, 1, life / 2, life - 2, life - 1, life, life + 1, 2 * life, -1, -2, -now} {
				switch at := now + later; {
				case at < 0 || at > api.MaxTick:
					wantNoGet(t, x, at, "a", api.ErrArg)
				case later < 0 || later >= life:
					wantNoGet(t, x, at, "a", api.ErrNone)
				default:
					wantGet(t, x, at, "a", "text", later)
				}
			}
		}
	}
}

// 14.2, P2: a now and a key that may not be, each of them and both, are told, and change nothing.
func TestGetRefuses(t *testing.T) {
	for _, x := range someStores(t) {
		for _, now := range wrongNows {
			for _, key := range append([]string{"a", "b", "other"}, wrongKeys...) {
				wantKept(t, "Get at a wrong now", x, func() { wantNoGet(t, x, now, key, api.ErrArg) })
			}
		}
		for _, now := range []int{0, mid, api.MaxTick} {
			for _, key := range wrongKeys {
				wantKept(t, "Get of a wrong key", x, func() { wantNoGet(t, x, now, key, api.ErrArg) })
			}
			for _, key := range []string{"other", "A", "aa", long(maxKey)} {
				wantKept(t, "Get of a key that is not there", x, func() { wantNoGet(t, x, now, key, api.ErrNone) })
			}
		}
	}
}

// 14.2: the entry of that very key is told, wherever it is, and that one alone was asked for then.
func TestGetOfKeys(t *testing.T) {
	for _, hand := range []int{0, 1, 4} {
		x := laid(t, "a - b> c< d", hand)
		wantGet(t, x, mid+5, "d", "of d", 15)
		wantWritten(t, x, "a - b> c< d*", hand)
		wantGet(t, x, mid-10, "a", "of a", 0)
		wantWritten(t, x, "a* - b> c< d*", hand)
		wantNoGet(t, x, mid, "b", api.ErrNone)
		wantNoGet(t, x, mid, "c", api.ErrNone)
		wantNoGet(t, x, mid, "e", api.ErrNone)
		wantWritten(t, x, "a* - b> c< d*", hand)
		wantGet(t, x, mid+29, "b", "of b", 19)
		wantGet(t, x, mid-30, "c", "of c", 0)
		wantWritten(t, x, "a* - b>* c<* d*", hand)
		wantGet(t, x, mid, "d", "of d", 10)
		wantWritten(t, x, "a* - b>* c<* d*", hand)
	}
}

// 14.2, P2: a Get at a now at which the entry is not fresh does not ask for it, nor does it take back that it was asked for.
func TestGetTooLate(t *testing.T) {
	for _, x := range someStores(t) {
		for _, key := range []string{"a", "b", "c", "d"} {
			for _, now := range []int{0, 19, 80, api.MaxTick} {
				wantKept(t, "Get when it is not fresh", x, func() { wantNoGet(t, x, now, key, api.ErrNone) })
			}
		}
	}
	x := laid(t, "a b", 0)
	wantNoGet(t, x, mid+10, "a", api.ErrNone)
	wantNoGet(t, x, mid-11, "a", api.ErrNone)
	put(t, x, mid, "c", "", age)
	wantKeys(t, x, "c", "b")
	x = laid(t, "a b", 0)
	wantGet(t, x, mid+9, "a", "of a", 19)
	put(t, x, mid, "c", "", age)
	wantKeys(t, x, "a", "c")
	x = laid(t, "a b", 0)
	wantGet(t, x, mid-10, "a", "of a", 0)
	put(t, x, mid, "c", "", age)
	wantKeys(t, x, "a", "c")
}

// 14.2, 14.5: an entry that was told stays when the hand comes by once; it has to be asked for again to stay a second time.
func TestAskedForOnce(t *testing.T) {
	x := laid(t, "a b c", 0)
	wantGet(t, x, mid, "a", "of a", 10)
	wantGet(t, x, mid, "a", "of a", 10)
	put(t, x, mid, "d", textOf("d"), age)
	put(t, x, mid, "e", textOf("e"), age)
	wantWritten(t, x, "a d! e!", 0)
	again := x.Clone()
	wantGet(t, again, mid, "a", "of a", 10)
	put(t, again, mid, "f", textOf("f"), age)
	wantWritten(t, again, "a f! e!", 2)
	put(t, x, mid, "f", textOf("f"), age)
	wantWritten(t, x, "f! d! e!", 1)
}

// 14.2: what was dropped, or what the hand took away, is not found any more, at no now, until it is put again.
func TestGetOfGone(t *testing.T) {
	x := laid(t, "a b", 0)
	wantNowhere := func(key string) {
		t.Helper()
		for _, now := range []int{0, mid - 10, mid, mid + 9, mid + 20} {
			wantNoGet(t, x, now, key, api.ErrNone)
		}
	}
	wantDrop(t, x, "a", true)
	wantNowhere("a")
	put(t, x, mid, "c", textOf("c"), age)
	wantNowhere("a")
	put(t, x, mid, "d", textOf("d"), age)
	wantWritten(t, x, "d! b", 1)
	wantNowhere("c")
	put(t, x, mid, "a", "again", 3)
	wantNowhere("b")
	wantGet(t, x, mid+2, "a", "again", 2)
	wantGet(t, x, mid+2, "d", "of d", 2)
}

// 14.2, 14.3: an entry that is put again is fresh from that Put on, longer or shorter than before; nothing is left of the old one.
func TestPutAgain(t *testing.T) {
	for _, life := range []int{1, 3, 5, 10, 20, api.MaxAge} {
		for _, now := range []int{0, 30, 40, 45, 59, 60, 90} {
			x := laid(t, "a b", 0)
			put(t, x, now, "a", "other bytes", life)
			wantKeys(t, x, "a", "b")
			wantNoGet(t, x, now+life, "a", api.ErrNone)
			if now > 0 {
				wantNoGet(t, x, now-1, "a", api.ErrNone)
			}
			wantGet(t, x, now, "a", "other bytes", 0)
			wantGet(t, x, now+life-1, "a", "other bytes", life-1)
			wantGet(t, x, mid, "b", "of b", 10)
			put(t, x, now, "a", "", life)
			wantGet(t, x, now, "a", "", 0)
			put(t, x, now, "a", "b", life)
			wantGet(t, x, now, "a", "b", 0)
		}
	}
}

// 14.2: an entry without bytes is another thing than none.
func TestNoBytes(t *testing.T) {
	x := made(t, 3, 0)
	if e := x.Put(1, "a", nil, 5); e != api.OK {
		t.Errorf("Put of nil: %v", e)
	}
	if e := x.Put(1, "b", []byte{}, 5); e != api.OK {
		t.Errorf("Put of no bytes: %v", e)
	}
	wantGet(t, x, 5, "a", "", 4)
	wantGet(t, x, 5, "b", "", 4)
	wantNoGet(t, x, 6, "a", api.ErrNone)
	wantNoGet(t, x, 5, "c", api.ErrNone)
	wantKeys(t, x, "a", "b", "")
	wantUsed(t, x, 2)
}

// 14.2: a Drop empties the slot of the key, fresh or not, asked for or not; no other, and the hand stays where it stands.
func TestDrop(t *testing.T) {
	for _, c := range []struct{ slots, key, want string }{
		{"a b c", "a", "- b c"},
		{"a b c", "b", "a - c"},
		{"a b c", "c", "a b -"},
		{"a* b* c*", "b", "a* - c*"},
		{"a< b* c", "a", "- b* c"},
		{"a<* b>* c", "b", "a<* - c"},
		{"- a> -", "a", "- - -"},
		{"- - a*", "a", "- - -"},
	} {
		for hand := range 3 {
			x := laid(t, c.slots, hand)
			wantDrop(t, x, c.key, true)
			wantWritten(t, x, c.want, hand)
			wantDrop(t, x, c.key, false)
			wantWritten(t, x, c.want, hand)
			wantNoGet(t, x, mid, c.key, api.ErrNone)
		}
	}
	x := laid(t, "a*", 0)
	wantDrop(t, x, "a", true)
	wantWritten(t, x, "-", 0)
}

// 14.2: a Drop of a key that is not there, or that can't be, does nothing.
func TestDropOfNone(t *testing.T) {
	for _, x := range someStores(t) {
		for _, key := range append([]string{"other", "A", "aa", " ", "a ", "\x00", long(maxKey)}, wrongKeys...) {
			wantKept(t, "Drop of a key that is not there", x, func() { wantDrop(t, x, key, false) })
		}
	}
}

// 14.1, 14.2: a slot that was dropped is empty, and is the first that is taken again, if none ahead of it is empty; nothing of its old entry stays.
func TestDropAndPut(t *testing.T) {
	for hand := range 4 {
		x := laid(t, "a* b* c* d*", hand)
		wantDrop(t, x, "c", true)
		wantDrop(t, x, "b", true)
		put(t, x, mid, "x", textOf("x"), age)
		wantWritten(t, x, "a* x! - d*", hand)
		put(t, x, mid, "c", textOf("c"), age)
		wantWritten(t, x, "a* x! c! d*", hand)
		wantDrop(t, x, "a", true)
		put(t, x, mid, "a", textOf("a"), age)
		wantWritten(t, x, "a! x! c! d*", hand)
	}
}

// 14.2: how many there are, where the hand is, and which: of a new store, of one with empty slots, of a full one.
func TestTelling(t *testing.T) {
	for _, c := range []struct {
		slots string
		hand  int
		used  int
		keys  []string
	}{
		{"", 0, 0, nil},
		{"-", 0, 0, []string{""}},
		{"a", 0, 1, []string{"a"}},
		{"- - -", 2, 0, []string{"", "", ""}},
		{"a - -", 1, 1, []string{"a", "", ""}},
		{"- - a", 0, 1, []string{"", "", "a"}},
		{"- a* - - b< -", 5, 2, []string{"", "a", "", "", "b", ""}},
		{"c - a", 1, 2, []string{"c", "", "a"}},
		{"b> a<* c*", 2, 3, []string{"b", "a", "c"}},
	} {
		x := laid(t, c.slots, c.hand)
		wantKept(t, "what only tells", x, func() {
			for range 2 {
				wantUsed(t, x, c.used)
				wantHand(t, x, c.hand)
				wantKeys(t, x, c.keys...)
			}
		})
	}
}

// 14.6: what is put and asked for at once is told as it was put, in whatever store.
func TestPutAndGet(t *testing.T) {
	for _, x := range someStores(t)[1:] {
		for i, key := range []string{"a", "b", "c", "other", long(maxKey)} {
			for _, now := range []int{0, 20, mid, 70, api.MaxTick} {
				for _, life := range []int{1, 2, api.MaxAge} {
					c := x.Clone()
					text := fmt.Sprint("text ", i, now, life)
					put(t, c, now, key, text, life)
					wantGet(t, c, now, key, text, 0)
					wantGet(t, c, now, key, text, 0)
				}
			}
		}
	}
}
