package resolver_test

import (
	"fmt"
	"testing"

	"sallyport/api"
	"sallyport/resolver"
)

// 16.1: a now or a name that may not be is refused ahead of all else, be the name known, outstanding, or one too many, and nothing changes.
func TestAskRefused(t *testing.T) {
	for i, r := range someResolvers(t) {
		wantKept(t, fmt.Sprintf("what is refused of resolver %d", i), r, func() {
			for _, draw := range []int{0, 7, -1} {
				for _, now := range wrongNows {
					for _, name := range append(someNames, "", "A", "10.0.0.1") {
						wantAsk(t, r, now, draw, name, 0, nil, api.ErrArg)
					}
				}
				for _, now := range []int{0, 1, 4, lastNow} {
					for _, name := range wrongNames {
						wantAsk(t, r, now, draw, name, 0, nil, api.ErrArg)
					}
				}
			}
		})
	}
}

// 16.1: each byte at each place of a name: those of the form are taken.
func TestAskBytes(t *testing.T) {
	for at := range 3 {
		for c := range 256 {
			name := []byte("aaa")
			name[at] = byte(c)
			right := c >= 'a' && c <= 'z' || c >= '0' && c <= '9' || at == 1 && (c == '-' || c == '.')
			r := made(t, 1, 1)
			if right {
				wantWaits(t, r, 0, 5, string(name))
				wantPosts(t, r, ask(5, string(name)))
			} else {
				wantAsk(t, r, 0, 5, string(name), 0, nil, api.ErrArg)
				wantPosts(t, r)
			}
		}
	}
}

// 16.1: names in their form, up to the longest, at the first and at the last now: a question for them is outstanding, its message is a post, and its answer is known.
func TestAskNames(t *testing.T) {
	for _, name := range rightNames {
		for _, now := range []int{0, 1, 1000, lastNow - 1, lastNow} {
			r := made(t, 2, 2)
			wantWaits(t, r, now, 7, name)
			wantAsked(t, r, "7 "+name)
			wantPosts(t, r, ask(7, name))
			wantUsed(t, r, now, 0)
			wantTake(t, r, now, answer(7, name, 5, ten(1)...), true)
			wantKnown(t, r, now, name, ten(1)...)
			wantUsed(t, r, now, 1)
		}
	}
}

// 16.1: the id is the lowest sixteen bits of the draw, in the question and in its message, whatever the draw is.
func TestAskDraws(t *testing.T) {
	for _, d := range draws {
		r := made(t, 1, 1)
		wantWaits(t, r, 0, d.draw, "a.b")
		wantAsked(t, r, fmt.Sprint(d.id, " a.b"))
		wantPosts(t, r, ask(d.id, "a.b"))
		wantTake(t, r, 0, answer(d.id^1, "a.b", 5, ten(1)...), false)
		wantTake(t, r, 0, answer(d.id, "a.b", 5, ten(1)...), true)
	}
}

// 16.1: what the table has is told till its time is over, with addresses and with none, and is not asked for meanwhile.
func TestAskKnown(t *testing.T) {
	for _, c := range []struct {
		addrs         []api.Addr
		seconds, life int
	}{{nil, 0, 8}, {ten(1), 1, 1}, {ten(2, 1), 5, 5}, {upTo(16), 60, 60}, {ten(9), api.MaxAge, api.MaxAge}} {
		for _, now := range []int{0, 17, lastNow} {
			r := made(t, 2, 1)
			know(t, r, now, "a", c.seconds, c.addrs...)
			for later := now; later < now+c.life; later += max(1, c.life/7) {
				if later <= lastNow {
					wantKnown(t, r, later, "a", c.addrs...)
				}
				wantUsed(t, r, later, 1)
			}
			wantUsed(t, r, now+c.life-1, 1)
			wantUsed(t, r, now+c.life, 0)
			if now < lastNow {
				wantKnown(t, r, now+c.life-1, "a", c.addrs...)
				wantAnew(t, r, now+c.life, "a")
				wantAnew(t, r, lastNow, "a")
			}
		}
	}
}

// 16.1: a name whose question is outstanding waits, with another draw, at another now and behind a Step too, and nothing comes of it: neither a post nor another id or another time.
func TestAskOutstanding(t *testing.T) {
	for i, r := range someResolvers(t) {
		wantKept(t, fmt.Sprintf("asking again of resolver %d", i), r, func() {
			for _, q := range r.Asked() {
				for _, now := range []int{0, 1, 3, 4, 11, 12, 100, lastNow} {
					wantWaits(t, r, now, 0xbeef, q.Name)
				}
			}
		})
	}
	r := made(t, 1, 2)
	wantWaits(t, r, 0, 7, "a")
	wantWaits(t, r, 3, 8, "a")
	wantPosts(t, r, ask(7, "a"))
	wantStep(t, r, 4, 9, true)
	wantWaits(t, r, 7, 10, "a")
	wantPosts(t, r, ask(9, "a"))
	wantStep(t, r, 7, 11, false)
	wantStep(t, r, 8, 11, true)
	wantWaits(t, r, 9, 12, "a")
	wantStep(t, r, 12, 13, true)
	wantKnown(t, r, 12, "a")
	wantPosts(t, r, ask(11, "a"))
}

// 16.1, 16.5: at the bound another name is refused, and nothing comes of it, while what is known and what is outstanding is told as ever; what is over makes room for one question, be it answered or given up.
func TestAskMost(t *testing.T) {
	for _, most := range []int{1, 2, 3, 8, api.MaxEnds} {
		r := made(t, 100, most)
		know(t, r, 0, "k.a", 99, ten(1)...)
		know(t, r, 0, "k.none", 0)
		var list []string
		for i := range most {
			list = append(list, fmt.Sprint(i, " n", i))
			wantWaits(t, r, i, i, fmt.Sprint("n", i))
			wantAsked(t, r, list...)
		}
		wantKept(t, "what is refused", r, func() {
			for _, now := range []int{0, 1, 4, 12, lastNow} {
				wantRefused(t, r, now, 99, "more")
			}
			wantKnown(t, r, 0, "k.a", ten(1)...)
			wantKnown(t, r, 0, "k.none")
			wantWaits(t, r, 0, 99, fmt.Sprint("n", most-1))
		})
		last := fmt.Sprint("n", most-1)
		wantTake(t, r, most, answer(most-1, last, 99, ten(2)...), true)
		r.Posts()
		wantWaits(t, r, most, 99, "more")
		wantPosts(t, r, ask(99, "more"))
		wantRefused(t, r, most, 98, "still.more")
		wantKnown(t, r, most, last, ten(2)...)
		for _, now := range []int{1000, 1004, 1008} {
			for range most {
				r.Step(now, 5)
			}
		}
		wantAsked(t, r)
		wantWaits(t, r, 3000, 97, "still.more")
	}
}

// 16.1: where none may be outstanding each name is refused, and nothing is ever known.
func TestAskNone(t *testing.T) {
	for _, slots := range []int{1, 5, api.MaxItems} {
		r := made(t, slots, 0)
		wantKept(t, "what is refused", r, func() {
			for i, name := range rightNames {
				wantRefused(t, r, i, i, name)
				wantTake(t, r, i, answer(i, name, 9, ten(1)...), false)
				wantStep(t, r, i+99, i, false)
			}
		})
		wantAsked(t, r)
		wantPosts(t, r)
	}
}

// 16.1: a question is sent again at the now at which it was asked and Wait, be other nows ahead of that one later or earlier.
func TestAskTimes(t *testing.T) {
	for _, now := range []int{0, 1, 5, 1000, lastNow - 4} {
		for _, before := range []int{0, 4, 2000, lastNow} {
			r := made(t, 2, 2)
			wantStep(t, r, before, 1, false)
			know(t, r, before, "other", 1)
			wantWaits(t, r, now, 7, "a")
			r.Posts()
			wantStep(t, r, 0, 8, false)
			wantStep(t, r, now+3, 8, false)
			wantStep(t, r, now+4, 8, true)
			wantPosts(t, r, ask(8, "a"))
		}
	}
}

// 16.1: nows may fall: what holds at an earlier now is known there, though it was asked for anew at a later one.
func TestAskEarlier(t *testing.T) {
	r := made(t, 2, 2)
	know(t, r, 10, "a", 5, ten(1)...)
	wantWaits(t, r, 15, 7, "a")
	wantKnown(t, r, 14, "a", ten(1)...)
	wantKnown(t, r, 0, "a", ten(1)...)
	wantWaits(t, r, 15, 8, "a")
	wantPosts(t, r, ask(7, "a"))
	wantTake(t, r, 3, answer(7, "a", 5, ten(2)...), true)
	wantKnown(t, r, 7, "a", ten(2)...)
	wantAnew(t, r, 8, "a")
}

// Ask looks at the table first: of a name that is known and outstanding the addresses are told.
func TestAskKnownAndOutstanding(t *testing.T) {
	r := made(t, 2, 1)
	know(t, r, 10, "a", 5, ten(1)...)
	wantWaits(t, r, 20, 7, "a")
	wantAsk(t, r, 12, 8, "a", resolver.Known, ten(1), api.OK)
	wantRefused(t, r, 12, 8, "b")
	wantAsked(t, r, "7 a")
}
