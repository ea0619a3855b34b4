package resolver_test

import (
	"fmt"
	"testing"

	"sallyport/api"
)

// 16.2: a now that may not be is refused, be there questions to be sent or not, and nothing changes.
func TestStepRefused(t *testing.T) {
	for i, r := range someResolvers(t) {
		wantKept(t, fmt.Sprintf("what is refused of resolver %d", i), r, func() {
			for _, now := range wrongNows {
				for _, draw := range []int{0, 7, -1} {
					if was, e := r.Step(now, draw); was || e != api.ErrArg {
						t.Errorf("Step(%d, %d): %v, %v, want ErrArg", now, draw, was, e)
					}
				}
			}
		})
	}
}

// 16.2: without a question that is to be sent there is none, and nothing changes.
func TestStepNone(t *testing.T) {
	for _, most := range []int{0, 1, 64} {
		r := made(t, 1, most)
		for _, now := range []int{0, 1, 4, 12, lastNow} {
			wantKept(t, "a Step without questions", r, func() { wantStep(t, r, now, 7, false) })
		}
	}
	r := made(t, 3, 3)
	know(t, r, 0, "k.a", 30, ten(1)...)
	for i, name := range []string{"a", "b", "c"} {
		wantWaits(t, r, 10+i, i, name)
	}
	wantKept(t, "a Step ahead of all times", r, func() {
		for now := range 14 {
			wantStep(t, r, now, 7, false)
		}
	})
	wantStep(t, r, 14, 7, true)
}

// 16.2: a question that is to be sent at now or earlier is sent, and again at that now and Wait, however late that was; one slot ahead of it, it is not.
func TestStepTimes(t *testing.T) {
	for _, asked := range []int{0, 1, 50, lastNow - 2000} {
		for _, late := range []int{0, 1, 3, 4, 5, 11, 12, 400} {
			r := made(t, 1, 1)
			wantWaits(t, r, asked, 1, "a")
			second := asked + 4 + late
			wantStep(t, r, asked+3, 2, false)
			wantStep(t, r, second, 2, true)
			for now := second; now < second+4; now++ {
				wantStep(t, r, now, 3, false)
			}
			third := second + 4 + late
			wantStep(t, r, third, 3, true)
			wantPosts(t, r, ask(1, "a"), ask(2, "a"), ask(3, "a"))
			wantStep(t, r, third+3, 4, false)
			wantAsked(t, r, "3 a")
			wantStep(t, r, third+4+late, 4, true)
			wantAsked(t, r)
			wantPosts(t, r)
			wantKnown(t, r, third+4+late, "a")
		}
	}
}

// 16.2: what was sent Tries times is given up: no more is sent, and that there are no addresses is known for Failed own slots; behind them a question goes out anew, as often as the first.
func TestStepGivesUp(t *testing.T) {
	r := made(t, 2, 2)
	for _, from := range []int{0, 100, 1000} {
		wantWaits(t, r, from, 1, "a")
		for i, now := range []int{from + 4, from + 8} {
			wantStep(t, r, now-1, i+2, false)
			wantStep(t, r, now, i+2, true)
			wantWaits(t, r, now, 9, "a")
			wantUsed(t, r, now, 0)
		}
		wantPosts(t, r, ask(1, "a"), ask(2, "a"), ask(3, "a"))
		over := from + 12
		wantStep(t, r, over-1, 4, false)
		wantAsked(t, r, "3 a")
		wantStep(t, r, over, 4, true)
		wantAsked(t, r)
		wantStep(t, r, over, 4, false)
		for now := over; now < over+4; now++ {
			wantKnown(t, r, now, "a")
			wantUsed(t, r, now, 1)
			wantTake(t, r, now, answer(3, "a", 60, ten(1)...), false)
			wantTake(t, r, now, answer(4, "a", 60, ten(1)...), false)
		}
		wantPosts(t, r)
		wantUsed(t, r, over+4, 0)
		wantAnew(t, r, over+4, "a")
	}
}

// 16.2: the last now that may be: a question is given up there too.
func TestStepAtLastNow(t *testing.T) {
	r := made(t, 2, 2)
	wantWaits(t, r, lastNow-4, 1, "a")
	wantStep(t, r, lastNow-1, 2, false)
	wantStep(t, r, lastNow, 2, true)
	wantStep(t, r, lastNow, 3, false)
	wantWaits(t, r, lastNow-12, 5, "b")
	wantStep(t, r, lastNow-8, 6, true)
	wantStep(t, r, lastNow-4, 7, true)
	wantStep(t, r, lastNow, 8, true)
	wantAsked(t, r, "2 a")
	wantKnown(t, r, lastNow, "b")
	wantUsed(t, r, lastNow+3, 1)
	wantUsed(t, r, lastNow+4, 0)
	wantPosts(t, r, ask(1, "a"), ask(2, "a"), ask(5, "b"), ask(6, "b"), ask(7, "b"))
}

// 16.2: each Step gives the question a new id, the lowest sixteen bits of its draw, and an answer to the old one is believed no more; the same id again is one too.
func TestStepDraws(t *testing.T) {
	for _, d := range draws {
		for _, tries := range []int{2, 3} {
			r := made(t, 1, 1)
			old := d.id ^ 0x8000
			wantWaits(t, r, 0, old, "a.b")
			for i := 2; i < tries; i++ {
				wantStep(t, r, 4, old, true)
			}
			r.Posts()
			wantStep(t, r, 8, d.draw, true)
			wantAsked(t, r, fmt.Sprint(d.id, " a.b"))
			wantPosts(t, r, ask(d.id, "a.b"))
			wantTake(t, r, 8, answer(old, "a.b", 60, ten(1)...), false)
			wantWaits(t, r, 8, 1, "a.b")
			wantTake(t, r, 8, answer(d.id, "a.b", 60, ten(2)...), true)
			wantKnown(t, r, 8, "a.b", ten(2)...)
		}
	}
	r := made(t, 1, 1)
	wantWaits(t, r, 0, 7, "a")
	wantStep(t, r, 4, 7, true)
	wantPosts(t, r, ask(7, "a"), ask(7, "a"))
	wantTake(t, r, 4, answer(7, "a", 60, ten(1)...), true)
}

// 16.2: of several the first that is to be sent goes, in the order in which they were asked, one at each Step; being sent again changes nothing of that order.
func TestStepOrder(t *testing.T) {
	r := made(t, 9, 5)
	for i, name := range []string{"d", "a", "c", "b"} {
		wantWaits(t, r, 0, i, name)
	}
	r.Posts()
	for round := 1; round <= 2; round++ {
		now := 4 * round
		wantStep(t, r, now-1, 9, false)
		for i, name := range []string{"d", "a", "c", "b"} {
			wantStep(t, r, now, 10*round+i, true)
			wantPosts(t, r, ask(10*round+i, name))
		}
		wantStep(t, r, now, 9, false)
	}
	wantAsked(t, r, "20 d", "21 a", "22 c", "23 b")
	for i, left := range [][]string{{"21 a", "22 c", "23 b"}, {"22 c", "23 b"}, {"23 b"}, nil} {
		wantStep(t, r, 12, 9, true)
		wantAsked(t, r, left...)
		wantUsed(t, r, 12, i+1)
	}
	wantStep(t, r, 12, 9, false)
	wantPosts(t, r)
}

// 16.2: it is the order of asking that counts, and not that of the times: the first that is to be sent goes, though a later one waits for longer.
func TestStepOrderNotTimes(t *testing.T) {
	r := made(t, 9, 4)
	for i, at := range []int{3, 0, 9, 1} {
		wantWaits(t, r, at, i, []string{"a", "b", "c", "d"}[i])
	}
	r.Posts()
	wantStep(t, r, 3, 10, false)
	wantStep(t, r, 4, 10, true)
	wantPosts(t, r, ask(10, "b"))
	wantStep(t, r, 4, 11, false)
	for i, name := range []string{"a", "d"} {
		wantStep(t, r, 7, 20+i, true)
		wantPosts(t, r, ask(20+i, name))
	}
	wantStep(t, r, 7, 11, false)
	for i, name := range []string{"a", "b", "c", "d"} {
		wantStep(t, r, 20, 30+i, true)
		wantPosts(t, r, ask(30+i, name))
	}
	wantStep(t, r, 23, 40, false)
	// a, b and d were sent three times by now, c but twice.
	for _, left := range [][]string{{"31 b", "32 c", "33 d"}, {"32 c", "33 d"}} {
		wantStep(t, r, 24, 40, true)
		wantAsked(t, r, left...)
	}
	wantStep(t, r, 24, 41, true)
	wantAsked(t, r, "41 c", "33 d")
	wantPosts(t, r, ask(41, "c"))
	wantStep(t, r, 24, 42, true)
	wantAsked(t, r, "41 c")
	wantStep(t, r, 24, 43, false)
}

// 16.2: a question that was asked behind others that are over stands behind those that are left.
func TestStepOrderBehindOthers(t *testing.T) {
	r := made(t, 9, 3)
	for i, name := range []string{"a", "b", "c"} {
		wantWaits(t, r, 0, i, name)
	}
	wantTake(t, r, 1, answer(0, "a", 9), true)
	wantWaits(t, r, 1, 5, "d")
	wantAsked(t, r, "1 b", "2 c", "5 d")
	wantTake(t, r, 1, answer(2, "c", 9), true)
	wantWaits(t, r, 1, 6, "e")
	wantAsked(t, r, "1 b", "5 d", "6 e")
	r.Posts()
	for i, name := range []string{"b", "d", "e"} {
		wantStep(t, r, 5, 10+i, true)
		wantPosts(t, r, ask(10+i, name))
	}
}

// 16.2: nows may fall: a question that was sent at a later now waits for that now and Wait.
func TestStepEarlier(t *testing.T) {
	r := made(t, 2, 2)
	wantWaits(t, r, 100, 1, "a")
	wantWaits(t, r, 0, 2, "b")
	r.Posts()
	wantStep(t, r, 50, 3, true)
	wantPosts(t, r, ask(3, "b"))
	wantStep(t, r, 53, 4, false)
	wantStep(t, r, 104, 4, true)
	wantPosts(t, r, ask(4, "a"))
	wantStep(t, r, 54, 5, true)
	wantStep(t, r, 58, 6, true)
	wantPosts(t, r, ask(5, "b"))
	wantAsked(t, r, "4 a")
	wantKnown(t, r, 61, "b")
	wantAnew(t, r, 62, "b")
	wantStep(t, r, 107, 7, false)
	wantStep(t, r, 108, 7, true)
	wantPosts(t, r, ask(7, "a"))
}

// 16.2: what is given up is put into the table as all else is: what was known of that name goes, and else what holds the shortest.
func TestStepGivesUpIntoTable(t *testing.T) {
	r := made(t, 2, 1)
	know(t, r, 0, "k.a", 200, ten(1)...)
	know(t, r, 0, "k.b", 100, ten(2)...)
	wantWaits(t, r, 0, 1, "a")
	for _, now := range []int{4, 8, 12} {
		wantKnown(t, r, now, "k.b", ten(2)...)
		wantStep(t, r, now, 2, true)
	}
	wantKnown(t, r, 12, "k.a", ten(1)...)
	wantKnown(t, r, 12, "a")
	r.Posts()
	wantAnew(t, r, 12, "k.b")
	wantUsed(t, r, 12, 2)
	// An earlier now at which its old addresses still hold tells that there are none, too.
	r = made(t, 2, 1)
	know(t, r, 0, "a", 5, ten(1)...)
	wantWaits(t, r, 5, 1, "a")
	for _, now := range []int{9, 13, 17} {
		wantKnown(t, r, 4, "a", ten(1)...)
		wantStep(t, r, now, 2, true)
	}
	wantKnown(t, r, 4, "a")
	wantKnown(t, r, 20, "a")
}
