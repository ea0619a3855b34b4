package names_test

import (
	"fmt"
	"math"
	"slices"
	"testing"

	"sallyport/api"
	"sallyport/names"
)

// 11.1, 11.2: the chapter's example.
func TestExample(t *testing.T) {
	x := made(t, 1)
	put(t, x, 5, "a", addresses(1), 10)
	wantGet(t, x, 14, "a", addresses(1), 1)
	wantNoGet(t, x, 15, "a", api.ErrNone)
	put(t, x, 6, "b", []api.Addr{}, 9)
	wantList(t, x, "b")
	wantGet(t, x, 6, "b", nil, 9)
	wantNoGet(t, x, 6, "a", api.ErrNone)
}

// 11.1: a table has just as many slots as were asked for, all of them empty.
func TestNew(t *testing.T) {
	for _, slots := range []int{0, 1, 2, 16, api.MaxItems - 1, api.MaxItems} {
		x := made(t, slots)
		wantList(t, x, make([]string, slots)...)
		wantUsed(t, x, 0, 0)
		wantUsed(t, x, api.MaxTick, 0)
		wantNoGet(t, x, 0, "", api.ErrNone)
		wantNoGet(t, x, 0, "a", api.ErrNone)
	}
	for _, slots := range []int{-1, api.MaxItems + 1, math.MinInt, math.MaxInt} {
		if x, e := names.New(slots); x != nil || e != api.ErrArg {
			t.Errorf("New(%d): %v, %v, want %v", slots, x, e, api.ErrArg)
		}
	}
}

// 11.1: two tables have nothing in common.
func TestTablesAreTheirOwn(t *testing.T) {
	x, y := made(t, 2), made(t, 2)
	put(t, x, 0, "a", addresses(1), 5)
	wantList(t, y, "", "")
	put(t, y, 0, "b", addresses(2), 5)
	wantList(t, x, "a", "")
	wantNoGet(t, y, 0, "a", api.ErrNone)
}

// 11.1, P1, P2: each row of arguments, right and wrong ones, several wrong at once among them: ErrArg goes ahead of ErrFull, and nothing is changed by either.
func TestPutArguments(t *testing.T) {
	nows := append([]int{0, 1, api.MaxTick - 1, api.MaxTick}, wrongNows...)
	texts := []string{"a", "b", "z", long(api.MaxName - 1), long(api.MaxName), "", long(api.MaxName + 1), long(api.MaxBytes)}
	counts := []int{0, 1, 15, 16, 17, 18, 255, 256, 272}
	ttls := []int{0, 1, api.MaxAge - 1, api.MaxAge, -1, api.MaxAge + 1, math.MinInt, math.MaxInt}
	tables := []*names.Table{made(t, 0), made(t, 2), laid(t, 5), laid(t, 5, 0, 10), laid(t, 10, 5)}
	for _, now := range nows {
		for i, name := range texts {
			for j, n := range counts {
				for _, ttl := range ttls {
					right := !slices.Contains(wrongNows, now) && i < 5 && j < 4 && ttl >= 0 && ttl <= api.MaxAge
					for _, x := range tables {
						wantPutOf(t, x, now, name, upTo(n), ttl, right)
					}
					if t.Failed() {
						return
					}
				}
			}
		}
	}
}

// wantPutOf wants a Put to be taken by a copy of the table, if it is right and there are slots.
func wantPutOf(t *testing.T, x *names.Table, now int, name string, addrs []api.Addr, ttl int, right bool) {
	t.Helper()
	c := x.Clone()
	if right && len(c.List()) > 0 {
		put(t, c, now, name, addrs, ttl)
		if ttl > 0 {
			wantGet(t, c, now, name, addrs, ttl)
		} else {
			wantNoGet(t, c, now, name, api.ErrNone)
		}
		return
	}
	want := api.ErrFull
	if !right {
		want = api.ErrArg
	}
	before := told(c)
	wantPut(t, c, now, name, addrs, ttl, want)
	if after := told(c); after != before {
		t.Errorf("Put(%d, %.9q, %d addresses, %d), which is refused: %s, was %s", now, name, len(addrs), ttl, after, before)
	}
}

// told is what a table tells of the names that laid gives.
func told(x *names.Table) string {
	text := fmt.Sprint(x.List())
	for _, now := range []int{0, 4, 5, 9, 10} {
		text += fmt.Sprint(" ", x.Used(now))
		for _, name := range x.List() {
			addrs, left, e := x.Get(now, name)
			text += fmt.Sprint(" ", addrs, left, int(e))
		}
	}
	return text
}

// P2: a Put that is refused changes nothing of what comes later either.
func TestRefusedPut(t *testing.T) {
	for _, tills := range [][]int{{}, {0, 0}, {5}, {5, 0, 10}, {10, 5, 5}, {1, 10}} {
		x := laid(t, tills...)
		for _, now := range wrongNows {
			wantKept(t, "a wrong now", x, func() { wantPut(t, x, now, "a", nil, 5, api.ErrArg) })
			wantKept(t, "a wrong now, and a TTL of 0", x, func() { wantPut(t, x, now, "a", nil, 0, api.ErrArg) })
		}
		wantKept(t, "no name", x, func() { wantPut(t, x, 7, "", addresses(9), 5, api.ErrArg) })
		wantKept(t, "no name, and a TTL of 0", x, func() { wantPut(t, x, 7, "", nil, 0, api.ErrArg) })
		wantKept(t, "a long name", x, func() { wantPut(t, x, 7, long(api.MaxName+1), nil, 5, api.ErrArg) })
		wantKept(t, "17 addresses", x, func() { wantPut(t, x, 7, "a", upTo(17), 5, api.ErrArg) })
		wantKept(t, "17 addresses, and a TTL of 0", x, func() { wantPut(t, x, 7, "a", upTo(17), 0, api.ErrArg) })
		wantKept(t, "a TTL of -1", x, func() { wantPut(t, x, 7, "a", nil, -1, api.ErrArg) })
		wantKept(t, "a long TTL", x, func() { wantPut(t, x, 7, "a", nil, api.MaxAge+1, api.ErrArg) })
	}
}

// 11.1: a table without slots takes nothing, not even what asks for no slot.
func TestNoSlots(t *testing.T) {
	x := made(t, 0)
	for _, ttl := range []int{0, 1, api.MaxAge} {
		wantPut(t, x, 0, "a", addresses(1), ttl, api.ErrFull)
	}
	wantPut(t, x, -1, "a", addresses(1), 1, api.ErrArg)
	wantPut(t, x, 0, "", addresses(1), 0, api.ErrArg)
	wantPut(t, x, 0, "a", upTo(17), 1, api.ErrArg)
	wantPut(t, x, 0, "a", addresses(1), -1, api.ErrArg)
	wantList(t, x)
	wantUsed(t, x, 0, 0)
	wantNoGet(t, x, 0, "a", api.ErrNone)
	wantNoGet(t, x, -1, "a", api.ErrArg)
}

// 11.1: an entry has its very addresses, in order, the same ones twice too.
func TestAddresses(t *testing.T) {
	x := made(t, 2)
	for n := range 17 {
		put(t, x, 0, "a", upTo(n), 5)
		wantGet(t, x, 0, "a", upTo(n), 5)
	}
	for n := 16; n >= 0; n-- {
		put(t, x, 0, "a", upTo(n), 5)
		wantGet(t, x, 0, "a", upTo(n), 5)
	}
	for _, list := range [][]api.Addr{
		{{}},
		{{}, {}, {}},
		{{A: 1, B: 2, C: 3, D: 4}, {A: 4, B: 3, C: 2, D: 1}},
		{{A: 255, B: 255, C: 255, D: 255}, {}, {A: 255, B: 255, C: 255, D: 255}},
		addresses(3, 1, 2, 1),
	} {
		put(t, x, 0, "b", list, 5)
		wantGet(t, x, 0, "b", list, 5)
	}
	wantGet(t, x, 0, "a", nil, 5)
}

// 11.1: names are any bytes, and only the same bytes are the same name.
func TestNamesAreBytes(t *testing.T) {
	list := []string{"a", "A", "b", "aa", "a.", ".a", " a", "a\x00", "\x00", "\xff", "é", "e\u0301", long(252), long(253), "m" + long(252), long(252) + "m"}
	x := made(t, len(list))
	for i, name := range list {
		put(t, x, 0, name, addresses(i), i+1)
	}
	wantList(t, x, list...)
	for i, name := range list {
		wantGet(t, x, 0, name, addresses(i), i+1)
	}
	for _, name := range []string{"", "B", "aA", "aaa", "\x01", long(251), long(254), long(253) + "\x00"} {
		wantNoGet(t, x, 0, name, api.ErrNone)
	}
}

// 11.1: a TTL of 0 empties the slot of an entry of that name, whether it holds or not, and no other; nothing is kept, whatever addresses are told.
func TestNoTTL(t *testing.T) {
	for _, now := range []int{0, 4, 5, 6, 100, api.MaxTick} {
		for _, addrs := range [][]api.Addr{nil, addresses(9), upTo(16)} {
			for i, list := range [][]string{{"", "b", "c"}, {"a", "", "c"}, {"a", "b", ""}} {
				x := laid(t, 5, 5, 5)
				put(t, x, now, letter(i), addrs, 0)
				wantList(t, x, list...)
				wantUsed(t, x, 4, 2)
				wantNoGet(t, x, 4, letter(i), api.ErrNone)
				wantGet(t, x, 4, letter((i+1)%3), addresses((i+1)%3+1), 1)
			}
			x := laid(t, 5, 0, 3)
			for _, name := range []string{"b", "A", "aa", "other", long(api.MaxName)} {
				wantKept(t, "a TTL of 0 of a name without an entry", x, func() { put(t, x, now, name, addrs, 0) })
			}
		}
	}
}

// 11.1: where the entry goes: each slot till when its entry holds (0: empty), and what is told by List behind a Put at 5.
func TestPlace(t *testing.T) {
	for _, c := range []struct {
		tills []int
		name  string
		want  []string
	}{
		// The name has an entry: one that holds, one that does not (just so, and for long), with other places ahead of it and behind it.
		{[]int{9}, "a", []string{"a"}},
		{[]int{5}, "a", []string{"a"}},
		{[]int{0, 9}, "b", []string{"", "b"}},
		{[]int{0, 5}, "b", []string{"", "b"}},
		{[]int{0, 1}, "b", []string{"", "b"}},
		{[]int{9, 0}, "a", []string{"a", ""}},
		{[]int{5, 0}, "a", []string{"a", ""}},
		{[]int{3, 9}, "b", []string{"a", "b"}},
		{[]int{3, 5}, "b", []string{"a", "b"}},
		{[]int{5, 3}, "b", []string{"a", "b"}},
		{[]int{9, 3}, "a", []string{"a", "b"}},
		{[]int{7, 9}, "b", []string{"a", "b"}},
		{[]int{9, 7}, "a", []string{"a", "b"}},
		{[]int{0, 3, 9, 0, 3}, "c", []string{"", "b", "c", "", "e"}},
		// No entry of that name: the first slot that is empty, or whose entry does not hold.
		{[]int{0}, "x", []string{"x"}},
		{[]int{0, 0}, "x", []string{"x", ""}},
		{[]int{9, 0, 0}, "x", []string{"a", "x", ""}},
		{[]int{0, 3}, "x", []string{"x", "b"}},
		{[]int{3, 0}, "x", []string{"x", ""}},
		{[]int{0, 5}, "x", []string{"x", "b"}},
		{[]int{5, 0}, "x", []string{"x", ""}},
		{[]int{5, 1}, "x", []string{"x", "b"}},
		{[]int{4, 3, 1}, "x", []string{"x", "b", "c"}},
		{[]int{9, 4, 1}, "x", []string{"a", "x", "c"}},
		{[]int{6, 5}, "x", []string{"a", "x"}},
		{[]int{6, 0}, "x", []string{"a", "x"}},
		{[]int{9, 6, 5, 4}, "x", []string{"a", "b", "x", "d"}},
		{[]int{6, 9, 0, 3}, "x", []string{"a", "b", "x", "d"}},
		// All of them hold: the one that holds the shortest, of equal ones the first.
		{[]int{6}, "x", []string{"x"}},
		{[]int{6, 7, 8}, "x", []string{"x", "b", "c"}},
		{[]int{7, 6, 8}, "x", []string{"a", "x", "c"}},
		{[]int{8, 7, 6}, "x", []string{"a", "b", "x"}},
		{[]int{6, 6, 6}, "x", []string{"x", "b", "c"}},
		{[]int{7, 6, 6}, "x", []string{"a", "x", "c"}},
		{[]int{6, 7, 6}, "x", []string{"x", "b", "c"}},
		{[]int{9, 8, 7, 8, 7}, "x", []string{"a", "b", "x", "d", "e"}},
		{[]int{api.MaxAge, api.MaxAge}, "x", []string{"x", "b"}},
	} {
		x := laid(t, c.tills...)
		put(t, x, 5, c.name, addresses(77), 4)
		wantList(t, x, c.want...)
		wantGet(t, x, 5, c.name, addresses(77), 4)
		for i, name := range c.want {
			if name != "" && name != c.name && c.tills[i] > 0 {
				wantGet(t, x, 0, name, addresses(i+1), c.tills[i])
			}
		}
		if t.Failed() {
			t.Fatalf("above: %v, Put of %s", c.tills, c.name)
		}
	}
}

// 11.1: which entry holds the shortest is told by till when it holds, not by its TTL, nor by when it was put.
func TestShortestByItsEnd(t *testing.T) {
	x := made(t, 3)
	put(t, x, 0, "a", nil, 20)
	put(t, x, 10, "b", nil, 9)
	put(t, x, 15, "c", nil, 6)
	put(t, x, 15, "d", nil, 100)
	wantList(t, x, "a", "d", "c")
	put(t, x, 15, "e", nil, 100)
	wantList(t, x, "e", "d", "c")
}

// 11.1: an entry that is put again holds from that Put on, longer or shorter than before; nothing is left of the old one.
func TestPutAgain(t *testing.T) {
	for _, ttl := range []int{1, 3, 5, 10, 20, api.MaxAge} {
		for _, now := range []int{0, 5, 9, 10, 11, 50} {
			x := laid(t, 10, 10)
			put(t, x, now, "a", addresses(7, 8), ttl)
			wantList(t, x, "a", "b")
			wantGet(t, x, now, "a", addresses(7, 8), ttl)
			wantGet(t, x, now+ttl-1, "a", addresses(7, 8), 1)
			wantNoGet(t, x, now+ttl, "a", api.ErrNone)
			wantGet(t, x, 9, "b", addresses(2), 1)
			put(t, x, now, "a", nil, ttl)
			wantGet(t, x, now, "a", nil, ttl)
		}
	}
}

// 11.1: now may fall: an entry holds at each now that is less than till when, and that alone tells which slot is free.
func TestNowFalls(t *testing.T) {
	x := made(t, 2)
	put(t, x, 100, "a", addresses(1), 10)
	wantGet(t, x, 0, "a", addresses(1), 110)
	put(t, x, 50, "b", addresses(2), 10)
	wantList(t, x, "a", "b")
	put(t, x, 20, "c", addresses(3), 5)
	wantList(t, x, "a", "c") // at 20 both hold, b the shorter
	put(t, x, 24, "d", addresses(4), 200)
	wantList(t, x, "a", "d")
	put(t, x, 0, "e", addresses(5), 1)
	wantList(t, x, "e", "d")
	put(t, x, 0, "d", addresses(6), 2)
	wantGet(t, x, 0, "d", addresses(6), 2)
	wantNoGet(t, x, 2, "d", api.ErrNone)
	wantNoGet(t, x, 24, "d", api.ErrNone)
}

// 11.1: a table of as many slots as may be is filled from the front; then the shortest goes, wherever it is.
func TestGreatTable(t *testing.T) {
	x := made(t, api.MaxItems)
	want := make([]string, api.MaxItems)
	place := map[int]int{} // by how long its entry holds; 7 and the number of slots have no part in common, so no two hold as long
	for i := range want {
		want[i] = fmt.Sprint("n", i)
		left := 10 + 7*i%api.MaxItems
		place[left] = i
		put(t, x, 0, want[i], addresses(i%256), left)
	}
	wantList(t, x, want...)
	for i, name := range want {
		wantGet(t, x, 0, name, addresses(i%256), 10+7*i%api.MaxItems)
	}
	for k := range 20 {
		put(t, x, 0, fmt.Sprint("new", k), nil, api.MaxAge)
		want[place[10+k]] = fmt.Sprint("new", k)
		wantList(t, x, want...)
	}
	wantUsed(t, x, 0, api.MaxItems)
	wantUsed(t, x, 30, api.MaxItems-1)
}
