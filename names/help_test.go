package names_test

import (
	"fmt"
	"math"
	"slices"
	"strings"
	"testing"

	"sallyport/api"
	"sallyport/names"
)

// addresses is the addresses 10.0.0.D.
func addresses(ds ...int) []api.Addr {
	var list []api.Addr
	for _, d := range ds {
		list = append(list, api.Addr{A: 10, D: byte(d)})
	}
	return list
}

// upTo is so many addresses, no two the same.
func upTo(n int) []api.Addr {
	var list []api.Addr
	for d := range n {
		list = append(list, addresses(d+1)...)
	}
	return list
}

// long is a name of so many bytes.
func long(n int) string {
	return strings.Repeat("n", n)
}

// wrongNows may not be a now.
var wrongNows = []int{-1, api.MaxTick + 1, math.MinInt, math.MaxInt}

// made is a new table of a number that may be.
func made(t *testing.T, slots int) *names.Table {
	t.Helper()
	x, e := names.New(slots)
	if e != api.OK || x == nil {
		t.Fatalf("New(%d): %v, %v", slots, x, e)
	}
	return x
}

func put(t *testing.T, x *names.Table, now int, name string, addrs []api.Addr, ttl int) {
	t.Helper()
	wantPut(t, x, now, name, addrs, ttl, api.OK)
}

func wantPut(t *testing.T, x *names.Table, now int, name string, addrs []api.Addr, ttl int, want api.Errno) {
	t.Helper()
	if e := x.Put(now, name, addrs, ttl); e != want {
		t.Errorf("Put(%d, %.9q, %d addresses, %d): %v, want %v", now, name, len(addrs), ttl, e, want)
	}
}

// wantGet wants an entry that holds for so long from now on.
func wantGet(t *testing.T, x *names.Table, now int, name string, addrs []api.Addr, left int) {
	t.Helper()
	if list, n, e := x.Get(now, name); !slices.Equal(list, addrs) || n != left || e != api.OK {
		t.Errorf("Get(%d, %.9q): %v, %d, %v, want %v, %d", now, name, list, n, e, addrs, left)
	}
}

// wantNoGet wants a refusal, and nothing beside it.
func wantNoGet(t *testing.T, x *names.Table, now int, name string, want api.Errno) {
	t.Helper()
	if list, n, e := x.Get(now, name); len(list) != 0 || n != 0 || e != want {
		t.Errorf("Get(%d, %.9q): %v, %d, %v, want %v", now, name, list, n, e, want)
	}
}

func wantUsed(t *testing.T, x *names.Table, now, want int) {
	t.Helper()
	if n := x.Used(now); n != want {
		t.Errorf("Used(%d): %d, want %d", now, n, want)
	}
}

func wantList(t *testing.T, x *names.Table, want ...string) {
	t.Helper()
	if list := x.List(); !slices.Equal(list, want) {
		t.Errorf("List: %q, want %q", list, want)
	}
}

// laid is a table whose slots have entries named a, b, c and so on that hold till then; 0: the slot is empty.
func laid(t *testing.T, tills ...int) *names.Table {
	t.Helper()
	x := made(t, len(tills))
	for i, till := range tills {
		put(t, x, 0, letter(i), addresses(i+1), max(till, 1))
	}
	for i, till := range tills {
		if till == 0 {
			put(t, x, 0, letter(i), nil, 0)
		}
	}
	return x
}

func letter(i int) string {
	return string([]byte{byte('a' + i)})
}

// shown is all that a table tells of these names at these nows, and all that comes of it: which entries are pushed out, one by one, when others are put.
func shown(x *names.Table, asked []string, nows []int) string {
	var b strings.Builder
	fmt.Fprintf(&b, "%q", x.List())
	for _, now := range nows {
		fmt.Fprintf(&b, " | %d: %d", now, x.Used(now))
		for _, name := range asked {
			addrs, left, e := x.Get(now, name)
			fmt.Fprint(&b, " ", name, addrs, left, int(e))
		}
		c := x.Clone()
		for i := range 5 {
			e := c.Put(now, fmt.Sprint("new", i), nil, api.MaxAge)
			fmt.Fprintf(&b, " %d %q", int(e), c.List())
		}
	}
	return b.String()
}

// wantKept wants what is done to leave all that the table could tell as it was.
func wantKept(t *testing.T, what string, x *names.Table, do func()) {
	t.Helper()
	asked := []string{"", "a", "b", "c", "A", "aa", "other"}
	nows := []int{0, 1, 4, 5, 6, 9, 10, 11, api.MaxTick}
	before := shown(x, asked, nows)
	do()
	if after := shown(x, asked, nows); after != before {
		t.Errorf("%s changes the table:\n%s\nwas\n%s", what, after, before)
	}
}
