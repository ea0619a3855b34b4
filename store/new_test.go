package store_test

import (
	"fmt"
	"math"
	"strings"
	"testing"

	"sallyport/api"
	"sallyport/store"
)

// 14.1, 14.2: the chapter's example.
func TestExample(t *testing.T) {
	x := made(t, 2, 9)
	put(t, x, 0, "a", "1", 9)
	put(t, x, 0, "b", "2", 9)
	wantGet(t, x, 1, "a", "1", 1)
	put(t, x, 2, "c", "3", 9)
	wantKeys(t, x, "a", "c")
	wantHand(t, x, 0)
	wantNoGet(t, x, 9, "a", api.ErrNone)
}

// 14.1: a store has just as many slots as were asked for, all of them empty; its hand stands at the first.
func TestNew(t *testing.T) {
	for _, c := range [][2]int{
		{0, 0}, {0, 1}, {0, api.MaxBytes},
		{1, 0}, {1, 1}, {1, api.MaxBytes - 1}, {1, api.MaxBytes},
		{2, 9}, {api.MaxItems - 1, 0}, {api.MaxItems, 0}, {api.MaxItems, 1},
		// just 1 << 22, and one below it
		{64, api.MaxBytes}, {api.MaxItems, 1024}, {2048, 2048}, {1365, 3072}, {4095, 1024}, {3, 65535}, {2047, 2049},
	} {
		x := made(t, c[0], c[1])
		wantKeys(t, x, make([]string, c[0])...)
		wantUsed(t, x, 0)
		wantHand(t, x, 0)
		wantNoGet(t, x, 0, "a", api.ErrNone)
		wantDrop(t, x, "a", false)
	}
}

// 14.1: numbers that may not be, each of them and both.
func TestNewRefuses(t *testing.T) {
	wrongSlots := []int{-1, -2, api.MaxItems + 1, math.MinInt, math.MaxInt}
	wrongKeeps := []int{-1, -2, api.MaxBytes + 1, math.MinInt, math.MaxInt}
	var wrong [][2]int
	for _, slots := range append(wrongSlots, 0, 1, api.MaxItems) {
		for _, keep := range wrongKeeps {
			wrong = append(wrong, [2]int{slots, keep})
		}
	}
	for _, slots := range wrongSlots {
		for _, keep := range []int{0, 1, 9, api.MaxBytes} {
			wrong = append(wrong, [2]int{slots, keep})
		}
	}
	// 2113 times 1985, and 397 times 10565, is just one above 1 << 22.
	wrong = append(wrong, [2]int{2113, 1985}, [2]int{1985, 2113}, [2]int{397, 10565}, [2]int{65, api.MaxBytes}, [2]int{64 + 1, api.MaxBytes - 1}, [2]int{api.MaxItems, 1025}, [2]int{api.MaxItems, api.MaxBytes})
	for _, c := range wrong {
		if x, e := store.New(c[0], c[1]); x != nil || e != api.ErrArg {
			t.Errorf("New(%d, %d): %v, %v, want %v", c[0], c[1], x, e, api.ErrArg)
		}
	}
}

// 14.1: two stores have nothing in common.
func TestStoresAreTheirOwn(t *testing.T) {
	x, y := made(t, 1, 9), made(t, 2, 9)
	put(t, x, 0, "a", "1", 5)
	put(t, x, 0, "b", "2", 5)
	wantKeys(t, y, "", "")
	wantHand(t, y, 0)
	put(t, y, 0, "c", "3", 5)
	wantKeys(t, x, "b")
	wantNoGet(t, y, 0, "b", api.ErrNone)
}

// 14.1: a store of as many slots, and one of as many bytes, as may be: all of them are there.
func TestGreatStores(t *testing.T) {
	x := made(t, api.MaxItems, 1024)
	want := make([]string, api.MaxItems)
	for i := range want {
		want[i] = fmt.Sprint("k", i)
		put(t, x, 0, want[i], fmt.Sprint("text ", i), api.MaxAge)
	}
	wantKeys(t, x, want...)
	wantUsed(t, x, api.MaxItems)
	for i, key := range want {
		wantGet(t, x, 7, key, fmt.Sprint("text ", i), 7)
	}
	put(t, x, 7, "new", "", 1)
	want[0] = "new"
	wantKeys(t, x, want...)
	wantHand(t, x, 1)

	full := func(i int) string { return strings.Repeat(fmt.Sprint(i%10), api.MaxBytes) }
	x = made(t, 64, api.MaxBytes)
	for i := range 64 {
		put(t, x, 0, fmt.Sprint("k", i), full(i), 9)
	}
	for i := range 64 {
		wantGet(t, x, 8, fmt.Sprint("k", i), full(i), 8)
	}
}
