package store_test

import (
	"fmt"
	"math"
	"slices"
	"strings"
	"testing"

	"sallyport/api"
	"sallyport/store"
)

// maxKey is how many bytes a key may have.
const maxKey = 4096

// wrongNows may not be a now, wrongAges no age; wrongKeys is keys that may not be.
var (
	wrongNows = []int{-1, api.MaxTick + 1, math.MinInt, math.MaxInt}
	wrongAges = []int{0, -1, api.MaxAge + 1, math.MinInt, math.MaxInt}
	wrongKeys = []string{"", long(maxKey + 1), long(api.MaxBytes)}
)

// long is a key of so many bytes.
func long(n int) string {
	return strings.Repeat("k", n)
}

// made is a new store of numbers that may be.
func made(t *testing.T, slots, keep int) *store.Store {
	t.Helper()
	x, e := store.New(slots, keep)
	if e != api.OK || x == nil {
		t.Fatalf("New(%d, %d): %v, %v", slots, keep, x, e)
	}
	return x
}

func put(t *testing.T, x *store.Store, now int, key, text string, age int) {
	t.Helper()
	wantPut(t, x, now, key, text, age, api.OK)
}

func wantPut(t *testing.T, x *store.Store, now int, key, text string, age int, want api.Errno) {
	t.Helper()
	if e := x.Put(now, key, []byte(text), age); e != want {
		t.Errorf("Put(%d, %.9q, %d bytes, %d): %v, want %v", now, key, len(text), age, e, want)
	}
}

// wantGet wants an entry that is so old.
func wantGet(t *testing.T, x *store.Store, now int, key, text string, old int) {
	t.Helper()
	if b, n, e := x.Get(now, key); string(b) != text || n != old || e != api.OK {
		t.Errorf("Get(%d, %.9q): %.20q, %d, %v, want %.20q, %d", now, key, b, n, e, text, old)
	}
}

// wantNoGet wants a refusal, and nothing beside it.
func wantNoGet(t *testing.T, x *store.Store, now int, key string, want api.Errno) {
	t.Helper()
	if b, n, e := x.Get(now, key); len(b) != 0 || n != 0 || e != want {
		t.Errorf("Get(%d, %.9q): %.20q, %d, %v, want %v", now, key, b, n, e, want)
	}
}

func wantDrop(t *testing.T, x *store.Store, key string, want bool) {
	t.Helper()
	if was := x.Drop(key); was != want {
		t.Errorf("Drop(%.9q): %v, want %v", key, was, want)
	}
}

func wantUsed(t *testing.T, x *store.Store, want int) {
	t.Helper()
	if n := x.Used(); n != want {
		t.Errorf("Used: %d, want %d", n, want)
	}
}

func wantHand(t *testing.T, x *store.Store, want int) {
	t.Helper()
	if n := x.Hand(); n != want {
		t.Errorf("Hand: %d, want %d", n, want)
	}
}

func wantKeys(t *testing.T, x *store.Store, want ...string) {
	t.Helper()
	if keys := x.Keys(); !slices.Equal(keys, want) {
		t.Errorf("Keys: %q, want %q", keys, want)
	}
}

// A store is written as its slots, with blanks between: "-" is an empty one, an entry is its key and what follows here. All is meant to be looked at at the now of mid, at which the entries of most signs are fresh.
//
//	(nothing) put at 40, fresh till mid and on
//	<         put at 20, not fresh any more at mid
//	>         put at 60: mid is less than that
//	!         put at mid
//	*         (behind these) it was asked for
const (
	mid = 50
	age = 20
)

func putAt(sign string) int {
	switch sign {
	case "<":
		return mid - 30
	case ">":
		return mid + 10
	case "!":
		return mid
	}
	return mid - 10
}

// textOf is the bytes of an entry that laid makes: no two keys have the same.
func textOf(key string) string {
	return "of " + key
}

// laid is a store that stands as it is written, with its hand at that slot.
func laid(t *testing.T, written string, hand int) *store.Store {
	t.Helper()
	words := strings.Fields(written)
	x := made(t, len(words), 99)
	for i := range len(words) + hand {
		put(t, x, 0, fmt.Sprint("first", i), "", 1)
	}
	for _, key := range x.Keys() {
		wantDrop(t, x, key, true)
	}
	for i, word := range words {
		key, sign := cut(word)
		if key == "-" {
			key = fmt.Sprint("empty", i)
		}
		put(t, x, putAt(sign), key, textOf(key), age)
		if strings.HasSuffix(word, "*") {
			wantGet(t, x, putAt(sign), key, textOf(key), 0)
		}
	}
	for i, word := range words {
		if word == "-" {
			wantDrop(t, x, fmt.Sprint("empty", i), true)
		}
	}
	return x
}

// cut is a word's key and its sign of when it was put.
func cut(word string) (string, string) {
	word = strings.TrimSuffix(word, "*")
	key := strings.TrimRight(word, "<>!")
	return key, word[len(key):]
}

// written is how a store stands, asked by its calls alone, and changing nothing of it.
func written(x *store.Store) string {
	var words []string
	for at, key := range x.Keys() {
		if key == "" {
			words = append(words, "-")
		} else {
			words = append(words, word(x, at, key))
		}
	}
	return strings.Join(words, " ")
}

func word(x *store.Store, at int, key string) string {
	for _, now := range []int{mid - 25, mid - 5, mid + 5, mid + 15} {
		b, old, e := x.Clone().Get(now, key)
		if e != api.OK {
			continue
		}
		text := key
		for _, sign := range []string{"<", ">", "!", ""} {
			if now-old == putAt(sign) {
				text += sign
				break
			}
		}
		if string(b) != textOf(key) {
			text += fmt.Sprintf("(%q)", b)
		}
		if wasAsked(x, at, now) {
			text += "*"
		}
		return text
	}
	return key + "?"
}

// wasAsked tells whether the entry of a slot, which is fresh at now, was asked for: all others are new ones, which were not, when the hand comes by at it. With a single slot nobody can tell, as the hand comes by a second time at once.
func wasAsked(x *store.Store, at, now int) bool {
	c := x.Clone()
	kept := c.Keys()[at]
	for _, key := range c.Keys() {
		if key != kept {
			c.Drop(key)
		}
	}
	slots := len(c.Keys())
	for i := range slots - 1 {
		c.Put(now, fmt.Sprint("beside", i), nil, age)
	}
	for i := range (at-c.Hand()+slots)%slots + 1 {
		c.Put(now, fmt.Sprint("behind", i), nil, age)
	}
	return c.Keys()[at] == kept
}

func wantWritten(t *testing.T, x *store.Store, want string, hand int) {
	t.Helper()
	if got := written(x); got != want || x.Hand() != hand {
		t.Errorf("the store stands as %s, hand at %d; want %s, %d", got, x.Hand(), want, hand)
	}
	if n := len(strings.Fields(strings.ReplaceAll(want, "-", ""))); x.Used() != n {
		t.Errorf("Used: %d, want %d", x.Used(), n)
	}
}

// stands is what wantKept looks at: how a store stands, and what it tells of each key at each now that is near one at which something changes.
func stands(x *store.Store) string {
	var b strings.Builder
	fmt.Fprint(&b, written(x), " | ", x.Hand(), x.Used())
	for _, key := range x.Keys() {
		for _, now := range []int{0, 19, 20, 39, 40, 49, 50, 59, 60, 69, 70, 79, 80, api.MaxTick} {
			text, old, e := x.Clone().Get(now, key)
			fmt.Fprintf(&b, " %q %d %d", text, old, int(e))
		}
	}
	return b.String()
}

// wantKept wants what is done to leave all that the store could tell as it was.
func wantKept(t *testing.T, what string, x *store.Store, do func()) {
	t.Helper()
	before := stands(x)
	do()
	if after := stands(x); after != before {
		t.Errorf("%s changes the store:\n%s\nwas\n%s", what, after, before)
	}
}

// someStores is stores that stand in many ways, to which something is done that is refused, or leaves them as they are.
func someStores(t *testing.T) []*store.Store {
	t.Helper()
	return []*store.Store{
		made(t, 0, 99),
		made(t, 1, 99),
		made(t, 3, 99),
		laid(t, "a", 0),
		laid(t, "a*", 0),
		laid(t, "a b", 1),
		laid(t, "a* b*", 1),
		laid(t, "- a* - b", 2),
		laid(t, "a* - b<* - c>*", 4),
		laid(t, "a<* b c>* d*", 3),
		laid(t, "a* b* c* d*", 0),
	}
}
