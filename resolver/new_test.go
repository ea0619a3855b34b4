package resolver_test

import (
	"fmt"
	"math"
	"slices"
	"testing"

	"sallyport/api"
	"sallyport/resolver"
)

// The chapter's example, each of its answers.
func TestExample(t *testing.T) {
	r := made(t, 4, 2)
	wantWaits(t, r, 0, 7, "a.b")
	wantPosts(t, r, "\x00\x07\x01\x00\x00\x01\x00\x00\x00\x00\x00\x00\x01a\x01b\x00\x00\x01\x00\x01")
	wantStep(t, r, 3, 8, false)
	wantPosts(t, r)
	wantStep(t, r, 4, 8, true)
	wantPosts(t, r, "\x00\x08\x01\x00\x00\x01\x00\x00\x00\x00\x00\x00\x01a\x01b\x00\x00\x01\x00\x01")
	wantTake(t, r, 4, answer(7, "a.b", 60, ten(1)...), false)
	wantTake(t, r, 4, answer(8, "a.b", 60, ten(1)...), true)
	wantAsk(t, r, 5, 9, "a.b", resolver.Known, []api.Addr{{A: 10, D: 1}}, api.OK)
	wantPosts(t, r)
}

// The numbers that the chapter tells.
func TestNumbers(t *testing.T) {
	got := []int{resolver.Wait, resolver.Tries, resolver.Failed, resolver.None, resolver.Known, resolver.Waits, resolver.Refused}
	if want := []int{4, 3, 4, 8, 1, 2, 3}; !slices.Equal(got, want) {
		t.Errorf("numbers %v, want %v", got, want)
	}
}

// 16.1: of each pair of numbers that may be New makes a resolver of which nothing is known, and nothing outstanding.
func TestNew(t *testing.T) {
	for _, slots := range []int{1, 2, 3, 100, api.MaxItems - 1, api.MaxItems} {
		for _, most := range []int{0, 1, 2, api.MaxEnds - 1, api.MaxEnds} {
			r := made(t, slots, most)
			wantAsked(t, r)
			wantPosts(t, r)
			for _, now := range shownNows {
				wantUsed(t, r, now, 0)
			}
			for _, now := range []int{0, 100, lastNow} {
				wantStep(t, r, now, 1, false)
				wantTake(t, r, now, answer(0, "a", 5, ten(1)...), false)
			}
			wantOutstanding(t, r, most)
		}
	}
}

// wantOutstanding wants a resolver to take so many questions, and no more.
func wantOutstanding(t *testing.T, r *resolver.Resolver, most int) {
	t.Helper()
	for i := range most {
		wantWaits(t, r, 0, i, fmt.Sprint("n", i))
	}
	for i := range 3 {
		wantRefused(t, r, 0, i, fmt.Sprint("more", i))
	}
	if n := len(r.Asked()); n != most {
		t.Errorf("%d questions are outstanding, want %d", n, most)
	}
	if n := len(r.Posts()); n != most {
		t.Errorf("%d posts, want %d", n, most)
	}
}

// 16.1: as many names are known as New was told; the next one takes the place of the one that holds the shortest.
func TestNewSlots(t *testing.T) {
	for _, slots := range []int{1, 2, 3, 64, api.MaxItems - 1, api.MaxItems} {
		r := made(t, slots, 1)
		for i := range slots {
			know(t, r, 0, fmt.Sprint("n", i), 10000-i, upTo(i%17)...)
		}
		wantUsed(t, r, 0, slots)
		for i := range slots {
			wantAsk(t, r, 0, 5, fmt.Sprint("n", i), resolver.Known, upTo(i%17), api.OK)
		}
		know(t, r, 0, "last", 20000, ten(1)...)
		wantUsed(t, r, 0, slots)
		wantKnown(t, r, 0, "last", ten(1)...)
		wantAnew(t, r, 0, "n0")
	}
}

// New: each wrong number, by itself and beside others that are wrong or right.
func TestNewRefused(t *testing.T) {
	wrongSlots := []int{0, -1, api.MaxItems + 1, math.MinInt, math.MaxInt}
	wrongMost := []int{-1, api.MaxEnds + 1, api.MaxItems, math.MinInt, math.MaxInt}
	want := func(slots, most int) {
		t.Helper()
		if r, e := resolver.New(slots, most); r != nil || e != api.ErrArg {
			t.Errorf("New(%d, %d): %v, %v, want ErrArg", slots, most, r, e)
		}
	}
	for _, slots := range wrongSlots {
		for _, most := range append([]int{0, 1, api.MaxEnds}, wrongMost...) {
			want(slots, most)
		}
	}
	for _, slots := range []int{1, 2, api.MaxItems} {
		for _, most := range wrongMost {
			want(slots, most)
		}
	}
}
