package store_test

import (
	"fmt"
	"math"
	"strings"
	"testing"
	"unsafe"

	"sallyport/api"
	"sallyport/store"
)

// Rule 4: the bytes that were handed in are neither changed nor kept, nor is what lies behind them.
func TestHandedIn(t *testing.T) {
	x := made(t, 2, 9)
	all := []byte("abcdefghijkl")
	for _, c := range []struct {
		key string
		b   []byte
	}{{"a", all[:3]}, {"b", all[3:6:6]}} {
		if e := x.Put(0, c.key, c.b, 5); e != api.OK {
			t.Errorf("Put of %q: %v", c.key, e)
		}
	}
	if string(all) != "abcdefghijkl" {
		t.Errorf("the bytes are %q behind Put", all)
	}
	clear(all)
	wantGet(t, x, 0, "a", "abc", 0)
	wantGet(t, x, 0, "b", "def", 0)
	if e := x.Put(0, "a", all[:1], 5); e != api.OK {
		t.Errorf("Put again: %v", e)
	}
	all[0] = 'z'
	wantGet(t, x, 0, "a", "\x00", 0)
	wantGet(t, x, 0, "b", "def", 0)
}

// Rule 4: a key is kept without the text that it was a piece of.
func TestKeyHandedIn(t *testing.T) {
	text := strings.Repeat("some text ", 1000)
	x := made(t, 1, 9)
	put(t, x, 0, text[:9], "", 5)
	wantKeys(t, x, "some text")
	if unsafe.StringData(x.Keys()[0]) == unsafe.StringData(text) {
		t.Error("the key lies in the text that was handed in")
	}
}

// Rule 4: what is handed out may be written over, and written on behind its end, and is told anew as it was.
func TestHandedOut(t *testing.T) {
	x := made(t, 3, 99)
	texts := map[string]string{"a": "text", "b": strings.Repeat("longer ", 14)}
	for _, key := range []string{"a", "b"} {
		put(t, x, 0, key, texts[key], 5)
	}
	for range 2 {
		for key, text := range texts {
			b, _, _ := x.Get(0, key)
			other, _, _ := x.Get(0, key)
			clear(b[:cap(b)])
			if string(other) != text {
				t.Errorf("two answers of Get(0, %q) are one", key)
			}
			wantGet(t, x, 0, key, text, 0)
			wantGet(t, x.Clone(), 0, key, text, 0)
		}
		keys := x.Keys()
		other := x.Keys()
		clear(keys[:cap(keys)])
		if fmt.Sprint(other) != "[a b ]" {
			t.Errorf("two answers of Keys are one: %q", other)
		}
		wantKeys(t, x, "a", "b", "")
		wantUsed(t, x, 2)
	}
}

// 14.2: a clone stands where the store does, whether it was asked for, the hand and Keep included.
func TestCloneStandsThere(t *testing.T) {
	for i, x := range someStores(t) {
		c := x.Clone()
		if c == nil || c == x {
			t.Fatalf("Clone of store %d: %p, of %p", i, c, x)
		}
		for _, c := range []*store.Store{c, c.Clone()} {
			if got, want := stands(c), stands(x); got != want {
				t.Errorf("Clone of store %d:\n%s\nwant\n%s", i, got, want)
			}
			wantPut(t, c, mid, "other", strings.Repeat("b", 100), age, api.ErrLong)
			if len(c.Keys()) > 0 {
				put(t, c, mid, "other", strings.Repeat("b", 99), age)
			} else {
				wantPut(t, c, mid, "other", "", age, api.ErrFull)
			}
		}
	}
	wantWritten(t, laid(t, "a* - b<* c>", 2).Clone(), "a* - b<* c>", 2)
}

// 14.2: a clone is a store of its own: what is done to the one changes nothing of the other, bytes included.
func TestCloneIsItsOwn(t *testing.T) {
	changes := []func(*store.Store){
		func(x *store.Store) { x.Put(mid, "a", []byte("OTHER"), 7) },
		func(x *store.Store) { x.Put(mid, "other", []byte("OTHER"), 7) },
		func(x *store.Store) { x.Put(mid+40, "other", []byte("OTHER"), 7) },
		func(x *store.Store) { x.Get(mid, "a") },
		func(x *store.Store) { x.Get(mid, "b") },
		func(x *store.Store) { x.Drop("a") },
		func(x *store.Store) { x.Drop("b") },
		func(x *store.Store) {
			b, _, _ := x.Get(mid, "a")
			clear(b)
		},
		func(x *store.Store) {
			for i := range 9 {
				x.Put(mid, fmt.Sprint("n", i), nil, 7)
			}
		},
	}
	for i := range someStores(t) {
		for _, change := range changes {
			x := someStores(t)[i]
			c := x.Clone()
			wantKept(t, "what is done to the clone", x, func() { change(c) })
			x = someStores(t)[i]
			c = x.Clone()
			wantKept(t, "what is done to the store", c, func() { change(x) })
		}
	}
}

// Rule 2: of a store that no call made each call answers ErrNil ahead of all else, or zero values, and nothing is done.
func TestUnmade(t *testing.T) {
	for _, x := range []*store.Store{nil, {}, new(store.Store)} {
		for range 2 {
			for _, now := range append([]int{0, mid, api.MaxTick}, wrongNows...) {
				for _, key := range append([]string{"a", long(maxKey)}, wrongKeys...) {
					for _, life := range []int{1, 0, api.MaxAge + 1, math.MinInt} {
						wantPut(t, x, now, key, "", life, api.ErrNil)
						wantPut(t, x, now, key, long(api.MaxBytes+1), life, api.ErrNil)
					}
					wantNoGet(t, x, now, key, api.ErrNil)
					wantDrop(t, x, key, false)
				}
			}
			wantUsed(t, x, 0)
			wantHand(t, x, 0)
			wantKeys(t, x)
			if c := x.Clone(); c != nil {
				t.Errorf("Clone: %v, want nil", c)
			}
		}
	}
}
