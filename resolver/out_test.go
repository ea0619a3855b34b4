package resolver_test

import (
	"fmt"
	"strings"
	"testing"

	"sallyport/api"
)

// 16.3: the posts are told in the order in which they were put, whichever call put them, and none a second time; what is not taken stays, however much comes behind.
func TestPosts(t *testing.T) {
	r := made(t, 9, 3)
	wantPosts(t, r)
	wantWaits(t, r, 0, 1, "b")
	wantWaits(t, r, 0, 2, "a.example.com")
	wantPosts(t, r, ask(1, "b"), ask(2, "a.example.com"))
	wantWaits(t, r, 4, 3, "c")
	wantStep(t, r, 4, 4, true)
	wantTake(t, r, 4, answer(3, "c", 60), true)
	wantStep(t, r, 8, 5, true)
	wantWaits(t, r, 8, 6, longName(253))
	wantStep(t, r, 8, 7, true)
	wantRefused(t, r, 8, 8, "other")
	wantPosts(t, r, ask(3, "c"), ask(4, "b"), ask(5, "b"), ask(6, longName(253)), ask(7, "a.example.com"))
}

// 16.3: posts that nobody takes stay, however many they are.
func TestManyPosts(t *testing.T) {
	r := made(t, 1, 1)
	var want []string
	for i := range 500 {
		wantWaits(t, r, 100*i, i, "n")
		want = append(want, ask(i, "n"))
		for try := 1; try < 3; try++ {
			wantStep(t, r, 100*i+4*try, 1000*try+i, true)
			want = append(want, ask(1000*try+i, "n"))
		}
		wantStep(t, r, 100*i+12, 5000, true)
	}
	wantPosts(t, r, want...)
}

// 16.3: the post of a question stays, though the question is over: it is sent already.
func TestPostsOfWhatIsOver(t *testing.T) {
	r := made(t, 9, 3)
	wantWaits(t, r, 0, 1, "a")
	wantTake(t, r, 0, answer(1, "a", 60, ten(1)...), true)
	wantKnown(t, r, 0, "a", ten(1)...)
	wantPosts(t, r, ask(1, "a"))
}

// 16.3: the questions that are outstanding are told in the order in which they were asked, each with the id with which it was sent last.
func TestAsked(t *testing.T) {
	r := made(t, 9, api.MaxEnds)
	wantAsked(t, r)
	var list []string
	for i := range api.MaxEnds {
		wantWaits(t, r, i, 65535-i, fmt.Sprint("n", 99-i))
		list = append(list, fmt.Sprint(65535-i, " n", 99-i))
		wantAsked(t, r, list...)
	}
	r.Posts()
	wantAsked(t, r, list...)
	wantStep(t, r, 4, 1, true)
	list[0] = "1 n99"
	wantAsked(t, r, list...)
	wantStep(t, r, 5, 2, true)
	list[1] = "2 n98"
	wantAsked(t, r, list...)
	wantTake(t, r, 5, answer(65535-40, "n59", 9), true)
	list = append(list[:40], list[41:]...)
	wantAsked(t, r, list...)
	for range list {
		wantStep(t, r, 100, 3, true)
	}
	r.Posts()
	for range list { // the first two are given up, the others sent a third time
		wantStep(t, r, 200, 5, true)
	}
	wantStep(t, r, 200, 5, false)
	list = list[2:]
	for i, was := range list {
		_, name, _ := strings.Cut(was, " ")
		list[i] = "5 " + name
	}
	wantAsked(t, r, list...)
	if n := len(r.Posts()); n != len(list) {
		t.Errorf("%d posts, want %d", n, len(list))
	}
}

// 16.3: how many entries of the table hold at a now, whatever the now is: it is the table's own bound that counts there, and no question is an entry.
func TestUsed(t *testing.T) {
	r := made(t, 4, 4)
	know(t, r, 10, "a", 5, ten(1)...)
	know(t, r, 12, "b", 20, ten(1, 2)...)
	know(t, r, 12, "none", 0)
	wantWaits(t, r, 12, 1, "c")
	for _, c := range []struct{ now, used int }{{-1, 0}, {0, 3}, {10, 3}, {14, 3}, {15, 2}, {19, 2}, {20, 1}, {31, 1}, {32, 0}, {lastNow, 0}, {lastNow + 1, 0}} {
		wantUsed(t, r, c.now, c.used)
	}
	for _, now := range wrongNows {
		wantUsed(t, r, now, 0)
	}
	wantPosts(t, r, ask(1, "c"))
	know(t, r, lastNow, "d", api.MaxAge, ten(1)...)
	for _, c := range []struct{ now, used int }{{-1, 0}, {lastNow, 1}, {lastNow + 1, 1}, {api.MaxTick - 1, 1}, {api.MaxTick, 0}, {api.MaxTick + 1, 0}} {
		wantUsed(t, r, c.now, c.used)
	}
}
