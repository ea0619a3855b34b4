package names_test

import (
	"testing"

	"sallyport/api"
	"sallyport/names"
)

// 11.2: an entry holds from its Put on, less than its TTL; it is told how long from now on.
func TestHowLong(t *testing.T) {
	for _, now := range []int{0, 1, 1000, api.MaxTick - api.MaxAge, api.MaxTick - 1, api.MaxTick} {
		for _, ttl := range []int{1, 2, 3, 100, api.MaxAge - 1, api.MaxAge} {
			x := made(t, 1)
			put(t, x, now, "a", addresses(1, 2), ttl)
			for _, later := range []int{0, 1, ttl / 2, ttl - 2, ttl - 1, ttl, ttl + 1, 2 * ttl} {
				switch {
				case now+later > api.MaxTick:
					wantNoGet(t, x, now+later, "a", api.ErrArg)
					wantUsed(t, x, now+later, 0)
				case later >= ttl:
					wantNoGet(t, x, now+later, "a", api.ErrNone)
					wantUsed(t, x, now+later, 0)
				case later >= 0:
					wantGet(t, x, now+later, "a", addresses(1, 2), ttl-later)
					wantUsed(t, x, now+later, 1)
				}
			}
			wantGet(t, x, 0, "a", addresses(1, 2), now+ttl)
		}
	}
}

// 11.2: a now that may not be is told ahead of a name that is not there.
func TestGetWrongNow(t *testing.T) {
	for _, x := range []*names.Table{made(t, 0), made(t, 2), laid(t, 5, 0), laid(t, api.MaxAge, 5)} {
		for _, now := range wrongNows {
			for _, name := range []string{"a", "b", "other", "", long(api.MaxName + 1)} {
				wantKept(t, "Get at a wrong now", x, func() { wantNoGet(t, x, now, name, api.ErrArg) })
			}
		}
		for _, now := range []int{0, api.MaxTick} {
			wantNoGet(t, x, now, "other", api.ErrNone)
		}
	}
}

// 11.2: the entry of that very name is told, wherever it is, and no other one.
func TestGetOfNames(t *testing.T) {
	x := laid(t, 0, 8, 5, 0, 10, 0)
	wantGet(t, x, 4, "b", addresses(2), 4)
	wantGet(t, x, 4, "c", addresses(3), 1)
	wantGet(t, x, 4, "e", addresses(5), 6)
	for _, name := range []string{"", "a", "d", "f", "g", "B", "C", "bb", "b.", " b", "ba", "ab", "b\x00", long(api.MaxName), long(api.MaxName + 1), long(api.MaxBytes + 1)} {
		wantNoGet(t, x, 4, name, api.ErrNone)
	}
	wantNoGet(t, x, 5, "c", api.ErrNone)
	wantGet(t, x, 5, "b", addresses(2), 3)
}

// 11.2: what was taken away, or pushed out, is not found any more, at no now, until it is put again.
func TestGetOfGone(t *testing.T) {
	x := laid(t, 10, 20)
	put(t, x, 3, "a", addresses(9), 0)
	for _, now := range []int{0, 2, 3, 4, 9} {
		wantNoGet(t, x, now, "a", api.ErrNone)
		wantGet(t, x, now, "b", addresses(2), 20-now)
	}
	put(t, x, 3, "a", addresses(8), 2)
	wantGet(t, x, 3, "a", addresses(8), 2)
	put(t, x, 4, "c", addresses(3), 50)
	for _, now := range []int{0, 3, 4} {
		wantNoGet(t, x, now, "a", api.ErrNone)
	}
	put(t, x, 4, "d", addresses(4), 50)
	wantNoGet(t, x, 4, "b", api.ErrNone)
	put(t, x, 60, "b", addresses(5), 1) // into the slot of c, whose entry holds no more
	wantNoGet(t, x, 10, "c", api.ErrNone)
	wantGet(t, x, 10, "d", addresses(4), 44)
	wantGet(t, x, 60, "b", addresses(5), 1)
}

// 11.2: that a name has no addresses is known too: it is another thing than not to know.
func TestNoAddresses(t *testing.T) {
	x := made(t, 2)
	put(t, x, 1, "a", nil, 5)
	put(t, x, 1, "b", []api.Addr{}, 5)
	for now := range 6 {
		wantGet(t, x, now, "a", nil, 6-now)
		wantGet(t, x, now, "b", nil, 6-now)
	}
	wantNoGet(t, x, 6, "a", api.ErrNone)
	wantNoGet(t, x, 5, "c", api.ErrNone)
	wantUsed(t, x, 5, 2)
}

// 11.2: how many hold, not how many there are; none at a now that may not be.
func TestUsed(t *testing.T) {
	for _, c := range []struct {
		tills []int
		used  [8]int // at 0, 1, 2 and so on
	}{
		{nil, [8]int{}},
		{[]int{0}, [8]int{}},
		{[]int{0, 0, 0}, [8]int{}},
		{[]int{1}, [8]int{1}},
		{[]int{3}, [8]int{1, 1, 1}},
		{[]int{3, 5, 3}, [8]int{3, 3, 3, 1, 1}},
		{[]int{0, 6, 0, 2, 4}, [8]int{3, 3, 2, 2, 1, 1}},
		{[]int{9, 9, 0}, [8]int{2, 2, 2, 2, 2, 2, 2, 2}},
		{[]int{9, 8, 7, 6}, [8]int{4, 4, 4, 4, 4, 4, 3, 2}},
	} {
		x := laid(t, c.tills...)
		for now, want := range c.used {
			wantUsed(t, x, now, want)
		}
		wantUsed(t, x, api.MaxTick, 0)
		for _, now := range wrongNows {
			wantUsed(t, x, now, 0)
		}
	}
	x := made(t, 2)
	put(t, x, api.MaxTick, "a", nil, api.MaxAge)
	wantUsed(t, x, api.MaxTick, 1)
	wantUsed(t, x, api.MaxTick+1, 0)
}

// 11.2: each slot's name is told in its place, whether its entry holds or not.
func TestList(t *testing.T) {
	for _, c := range []struct {
		tills []int
		want  []string
	}{
		{nil, nil},
		{[]int{0, 0}, []string{"", ""}},
		{[]int{0, 0, 5}, []string{"", "", "c"}},
		{[]int{5, 0, 0}, []string{"a", "", ""}},
		{[]int{0, 5, 0, 0, 1, 0}, []string{"", "b", "", "", "e", ""}},
		{[]int{5, 0, 1}, []string{"a", "", "c"}},
		{[]int{5, 1, 3}, []string{"a", "b", "c"}},
	} {
		x := laid(t, c.tills...)
		wantList(t, x, c.want...)
		x.Get(100, "a")
		x.Used(100)
		wantList(t, x, c.want...)
	}
}

// 11.2: what only asks changes nothing, not even of an entry that holds no more.
func TestAskingChangesNothing(t *testing.T) {
	for _, tills := range [][]int{{}, {0, 0}, {5}, {5, 0, 10}, {10, 5, 5}, {1, 10}} {
		x := laid(t, tills...)
		for _, now := range []int{-1, 0, 4, 5, 100, api.MaxTick, api.MaxTick + 1} {
			for _, name := range []string{"", "a", "b", "other"} {
				wantKept(t, "Get", x, func() { x.Get(now, name) })
			}
			wantKept(t, "Used", x, func() { x.Used(now) })
		}
		wantKept(t, "List", x, func() { x.List() })
		wantKept(t, "Clone", x, func() { x.Clone() })
	}
}
