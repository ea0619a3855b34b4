package names_test

import (
	"strings"
	"testing"
	"unsafe"

	"sallyport/api"
	"sallyport/names"
)

// Rule 4: the addresses that were handed in are neither changed nor kept, nor is what lies behind them.
func TestHandedIn(t *testing.T) {
	x := made(t, 2)
	all := upTo(16)
	put(t, x, 0, "a", all[:2], 5)
	put(t, x, 0, "b", all[2:4:4], 5)
	for i, want := range upTo(16) {
		if all[i] != want {
			t.Errorf("address %d is %v behind Put, was %v", i, all[i], want)
		}
	}
	clear(all)
	wantGet(t, x, 0, "a", addresses(1, 2), 5)
	wantGet(t, x, 0, "b", addresses(3, 4), 5)
	put(t, x, 0, "a", all[:1], 5)
	wantGet(t, x, 0, "a", []api.Addr{{}}, 5)
	wantGet(t, x, 0, "b", addresses(3, 4), 5)
}

// Rule 4: a name is kept without the text that it was a piece of.
func TestNameHandedIn(t *testing.T) {
	text := strings.Repeat("some text ", 1000)
	x := made(t, 1)
	put(t, x, 0, text[:9], addresses(1), 5)
	wantList(t, x, "some text")
	if unsafe.StringData(x.List()[0]) == unsafe.StringData(text) {
		t.Error("the name lies in the text that was handed in")
	}
}

// Rule 4: what is handed out may be written over, and written on behind its end, and is told anew as it was.
func TestHandedOut(t *testing.T) {
	x := made(t, 2)
	put(t, x, 0, "a", addresses(1, 2), 5)
	put(t, x, 0, "b", upTo(16), 5)
	for range 2 {
		for _, name := range []string{"a", "b"} {
			addrs, _, _ := x.Get(0, name)
			other, _, _ := x.Get(0, name)
			clear(addrs[:cap(addrs)])
			if other[0] != addresses(1)[0] {
				t.Errorf("two lists of Get(0, %q) are one", name)
			}
		}
		wantGet(t, x, 0, "a", addresses(1, 2), 5)
		wantGet(t, x, 0, "b", upTo(16), 5)
		list := x.List()
		clear(list[:cap(list)])
		wantList(t, x, "a", "b")
		wantUsed(t, x, 0, 2)
	}
}

// 11.2: a clone stands where the table does.
func TestCloneStandsThere(t *testing.T) {
	asked := []string{"", "a", "b", "c", "d", "other"}
	nows := []int{-1, 0, 4, 5, 6, 9, 10, api.MaxTick, api.MaxTick + 1}
	for _, tills := range [][]int{{}, {0}, {0, 0, 0}, {5}, {5, 0, 10}, {0, 5, 0}, {10, 5, 5, 7}, {1, 10}} {
		x := laid(t, tills...)
		c := x.Clone()
		if c == nil || c == x {
			t.Fatalf("Clone of %v: %p, of %p", tills, c, x)
		}
		if got, want := shown(c, asked, nows), shown(x, asked, nows); got != want {
			t.Errorf("Clone of %v:\n%s\nwant\n%s", tills, got, want)
		}
		if got, want := shown(c.Clone(), asked, nows), shown(x, asked, nows); got != want {
			t.Errorf("Clone of Clone of %v:\n%s\nwant\n%s", tills, got, want)
		}
	}
}

// 11.2: a clone is a table of its own: what is done to the one changes nothing of the other.
func TestCloneIsItsOwn(t *testing.T) {
	changes := []func(*names.Table){
		func(x *names.Table) { x.Put(0, "a", addresses(9), 7) },
		func(x *names.Table) { x.Put(0, "a", nil, 0) },
		func(x *names.Table) { x.Put(0, "b", nil, 0) },
		func(x *names.Table) { x.Put(20, "other", addresses(9), 7) },
		func(x *names.Table) { x.Put(0, "other", addresses(9), 1) },
	}
	for _, tills := range [][]int{{}, {0}, {0, 0}, {5}, {5, 0, 10}, {10, 5, 5}} {
		for _, change := range changes {
			x := laid(t, tills...)
			c := x.Clone()
			wantKept(t, "what is done to the clone", x, func() { change(c) })
			x = laid(t, tills...)
			c = x.Clone()
			wantKept(t, "what is done to the table", c, func() { change(x) })
		}
	}
}

// Rule 2: of a table that no call made each call answers ErrNil ahead of all else, or zero values, and nothing is done.
func TestUnmade(t *testing.T) {
	for _, x := range []*names.Table{nil, {}, new(names.Table)} {
		for range 2 {
			for _, now := range append([]int{0, 5, api.MaxTick}, wrongNows...) {
				wantPut(t, x, now, "a", addresses(1), 5, api.ErrNil)
				wantPut(t, x, now, "a", addresses(1), 0, api.ErrNil)
				wantPut(t, x, now, "", upTo(17), -1, api.ErrNil)
				wantNoGet(t, x, now, "a", api.ErrNil)
				wantNoGet(t, x, now, "", api.ErrNil)
				wantUsed(t, x, now, 0)
			}
			wantList(t, x)
			if c := x.Clone(); c != nil {
				t.Errorf("Clone: %v, want nil", c)
			}
		}
	}
}
