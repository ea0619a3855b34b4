package resolver_test

import (
	"fmt"
	"testing"

	"sallyport/api"
	"sallyport/resolver"
)

// 16.3: a now that may not be is refused, be the bytes an answer to an outstanding question or not, and nothing changes.
func TestTakeRefused(t *testing.T) {
	for i, r := range someResolvers(t) {
		texts := []string{"", "junk", answer(1, "other", 9)}
		for _, q := range r.Asked() {
			texts = append(texts, answer(q.ID, q.Name, 9, ten(1)...))
		}
		wantKept(t, fmt.Sprintf("what is refused of resolver %d", i), r, func() {
			for _, now := range wrongNows {
				for _, text := range texts {
					if was, e := r.Take(now, []byte(text)); was || e != api.ErrArg {
						t.Errorf("Take(%d, %x): %v, %v, want ErrArg", now, text, was, e)
					}
				}
			}
		})
	}
}

// noAnswers are no answers to the question 7 for a.b, nor to any other one that is outstanding in the test.
func noAnswers() []string {
	right := answer(7, "a.b", 60, ten(1, 2)...)
	list := []string{
		"", "\x00", "\x00\x07", "junk", right + many(api.MaxGram, 0), many(api.MaxGram, 0), many(api.MaxGram+1, 7), many(api.MaxBytes, 'a'),
		ask(7, "a.b"),
		answer(6, "a.b", 60, ten(1)...), answer(8, "a.b", 60, ten(1)...), answer(7+256, "a.b", 60, ten(1)...), answer(0x0700, "a.b", 60, ten(1)...), answer(65535, "a.b", 60, ten(1)...),
		answer(7, "a", 60, ten(1)...), answer(7, "b", 60, ten(1)...), answer(7, "a.c", 60, ten(1)...), answer(7, "a.b.c", 60, ten(1)...), answer(7, "x.a.b", 60, ten(1)...), answer(7, "a-b", 60, ten(1)...), answer(7, "b.a", 60, ten(1)...),
		coded(8, "a.b", 3), coded(7, "a.c", 3),
		message(7, 0x8180|0x0200, "a.b", record(12, 1, 60, "\x0a\x00\x00\x01")), // cut off
		message(7, 0x8180|0x0800, "a.b", record(12, 1, 60, "\x0a\x00\x00\x01")), // something else is asked
		message(7, 0x8180|0x4000, "a.b"),
		"\x00\x07\x81\x80\x00\x00\x00\x00\x00\x00\x00\x00",                                         // no question
		two(7) + two(0x8180) + two(2) + right[6:],                                                  // two of them
		two(7) + two(0x8180) + two(1) + two(0) + two(0) + two(0) + "\x00" + two(1) + two(1),        // no name
		two(7) + two(0x8180) + two(1) + two(0) + two(0) + two(0) + "\x01_\x00" + two(1) + two(1),   // a wrong one
		two(7) + two(0x8180) + two(1) + two(0) + two(0) + two(0) + "\xc0\x0c" + two(1) + two(1),    // one that leads to itself
		two(7) + two(0x8180) + two(1) + two(0) + two(0) + two(0) + whole("a.b") + two(28) + two(1), // a question of another type
		two(7) + two(0x8180) + two(1) + two(0) + two(0) + two(0) + whole("a.b") + two(1) + two(3),  // and of another class
	}
	for i := range len(right) {
		list = append(list, right[:i])
	}
	for i := range len(coded(7, "a.b", 3)) {
		list = append(list, coded(7, "a.b", 3)[:i])
	}
	return list
}

// 16.3: what is an answer to no question that is outstanding, and what is no answer at all, is not taken, and nothing changes; the answer is still taken then.
func TestTakeNone(t *testing.T) {
	for _, before := range []int{0, 1, 3} {
		for _, behind := range []int{0, 1, 3} {
			r := made(t, 9, 9)
			know(t, r, 0, "k.a", 60, ten(9)...)
			for i := range before {
				wantWaits(t, r, i, 100+i, fmt.Sprint("before", i))
			}
			wantWaits(t, r, 3, 7, "a.b")
			for i := range behind {
				wantWaits(t, r, i, 200+i, fmt.Sprint("behind", i))
			}
			wantKept(t, "what is not taken", r, func() {
				for _, text := range noAnswers() {
					for _, now := range []int{0, 3, 7, 30, lastNow} {
						wantTake(t, r, now, text, false)
					}
				}
				if was, e := r.Take(5, nil); was || e != api.OK {
					t.Errorf("Take(5, nil): %v, %v", was, e)
				}
			})
			wantTake(t, r, 3, answer(7, "a.b", 60, ten(1, 2)...), true)
			wantKnown(t, r, 3, "a.b", ten(1, 2)...)
		}
	}
}

// 16.3: where no question is outstanding nothing is taken, and nothing is known of it.
func TestTakeWithoutQuestions(t *testing.T) {
	for _, most := range []int{0, 1, 64} {
		r := made(t, 4, most)
		wantKept(t, "what is not taken", r, func() {
			for _, text := range append(noAnswers(), answer(7, "a.b", 60, ten(1)...), coded(7, "a", 3), answer(0, "a", 0)) {
				wantTake(t, r, 0, text, false)
			}
		})
		wantUsed(t, r, 0, 0)
	}
}

// 16.3: the answer to the first, to one in between and to the last of several ends that question alone; the others stay in their order, at their times, with their ids.
func TestTakeOfSeveral(t *testing.T) {
	names := []string{"d", "a", "c", "b"}
	ids := []string{"0 d", "1 a", "2 c", "3 b"}
	for at, name := range names {
		r := made(t, 9, 4)
		for i, name := range names {
			wantWaits(t, r, i, i, name)
		}
		r.Posts()
		wantTake(t, r, 3, answer(at, name, 60, ten(at)...), true)
		left := append(append([]string(nil), ids[:at]...), ids[at+1:]...)
		wantAsked(t, r, left...)
		wantKnown(t, r, 3, name, ten(at)...)
		wantUsed(t, r, 3, 1)
		wantPosts(t, r)
		for i, name := range names {
			if i == at {
				wantStep(t, r, 4+i, 9, false)
				continue
			}
			wantWaits(t, r, 3, 9, name)
			wantStep(t, r, 3+i, 9, false)
			wantStep(t, r, 4+i, 10+i, true)
			wantPosts(t, r, ask(10+i, name))
		}
	}
}

// 16.3: all of several are answered one by one, in any order.
func TestTakeAll(t *testing.T) {
	for _, order := range [][]int{{0, 1, 2}, {0, 2, 1}, {1, 0, 2}, {1, 2, 0}, {2, 0, 1}, {2, 1, 0}} {
		r := made(t, 3, 3)
		for i := range 3 {
			wantWaits(t, r, 0, 50, fmt.Sprint("n", i)) // of one id, so that the names alone tell them apart
		}
		for k, i := range order {
			wantTake(t, r, 0, answer(50, fmt.Sprint("n", i), 60, ten(i)...), true)
			wantUsed(t, r, 0, k+1)
		}
		wantAsked(t, r)
		for i := range 3 {
			wantKnown(t, r, 0, fmt.Sprint("n", i), ten(i)...)
		}
	}
}

// 16.3: an answer with addresses is known for its TTL, at least 1, and then no more: as many addresses as there may be, in their order.
func TestTakeAddresses(t *testing.T) {
	many := append([]api.Addr{{A: 255, B: 254, C: 253, D: 252}, {}, {A: 1}}, upTo(12)...)
	for _, addrs := range [][]api.Addr{ten(1), ten(2, 1), ten(1, 1), upTo(15), upTo(16), append(many, api.Addr{B: 9})} {
		for _, c := range []struct{ seconds, life int }{
			{0, 1}, {1, 1}, {2, 2}, {7, 7}, {8, 8}, {9, 9}, {60, 60}, {api.MaxAge - 1, api.MaxAge - 1}, {api.MaxAge, api.MaxAge}, {api.MaxAge + 1, api.MaxAge}, {0x7fffffff, api.MaxAge}, {0x80000000, 1}, {0xffffffff, 1},
		} {
			for _, now := range []int{0, 5, lastNow} {
				r := made(t, 2, 1)
				know(t, r, now, "a", c.seconds, addrs...)
				wantKnown(t, r, now, "a", addrs...)
				wantUsed(t, r, now+c.life-1, 1)
				wantUsed(t, r, now+c.life, 0)
				if now != lastNow {
					wantKnown(t, r, now+c.life-1, "a", addrs...)
					wantAnew(t, r, now+c.life, "a")
				}
			}
		}
	}
}

// 16.3: of more addresses than there may be the first are known, and the least time of all counts.
func TestTakeManyAddresses(t *testing.T) {
	for _, n := range []int{16, 17, 18, 28} {
		r := made(t, 2, 1)
		know(t, r, 0, "a", 60, upTo(n)...)
		wantKnown(t, r, 59, "a", upTo(16)...)
		wantAnew(t, r, 60, "a")
	}
	r := made(t, 1, 1)
	wantWaits(t, r, 0, 7, "a")
	wantTake(t, r, 0, message(7, 0x8180, "a", record(12, 1, 9, "\x0a\x00\x00\x01"), record(12, 1, 5, "\x0a\x00\x00\x02"), record(12, 1, 7, "\x0a\x00\x00\x03")), true)
	wantKnown(t, r, 4, "a", ten(1, 2, 3)...)
	wantAnew(t, r, 5, "a")
}

// 16.3: an answer without addresses, or with another code than 0, says that there are none, for None own slots, whatever times stand in it.
func TestTakeNoAddresses(t *testing.T) {
	texts := []string{
		answer(7, "a", 0),
		message(7, 0x8180, "a", record(12, 28, 60, many(16, 1))),                      // of another type
		message(7, 0x8180, "a", record(12, 1, 60, "\x0a\x00\x00\x01\x01")),            // of five bytes
		message(7, 0x8180, "a", record(12, 5, 60, "\xc0\x0c")),                        // an alias that leads nowhere
		message(7, 0x8180, "a", record(12, 5, 1, "\x01b\x00")),                        // and one to a name that has none
		message(7, 0x8180, "a", "\x01b\x00"+record(0, 1, 60, "\x0a\x00\x00\x01")[2:]), // of another name
	}
	for code := 1; code < 16; code++ {
		texts = append(texts, coded(7, "a", code))
		texts = append(texts, message(7, 0x8180+code, "a", record(12, 1, 60, "\x0a\x00\x00\x01")))
		texts = append(texts, message(7, 0x8180+code, "a", "junk"))
	}
	for _, text := range texts {
		for _, now := range []int{0, 5, lastNow - 8, lastNow} {
			r := made(t, 2, 1)
			wantWaits(t, r, now, 7, "a")
			wantTake(t, r, now, text, true)
			wantAsked(t, r)
			wantKnown(t, r, now, "a")
			wantUsed(t, r, now+7, 1)
			wantUsed(t, r, now+8, 0)
			if now+8 <= lastNow {
				wantKnown(t, r, now+7, "a")
				wantAnew(t, r, now+8, "a")
			}
		}
	}
}

// 16.3: an alias leads to the addresses of the name that was asked for; the name that it leads to is not known by it.
func TestTakeAlias(t *testing.T) {
	r := made(t, 4, 2)
	wantWaits(t, r, 0, 7, "a")
	wantTake(t, r, 0, message(7, 0x8180, "a", record(12, 5, 9, "\x01b\x00"), "\x01b\x00"+record(0, 1, 60, "\x0a\x00\x00\x05")[2:]), true)
	wantKnown(t, r, 8, "a", ten(5)...)
	wantAnew(t, r, 9, "a")
	wantAnew(t, r, 0, "b")
	wantUsed(t, r, 0, 1)
}

// 16.3: an answer's name may stand in any letters; other flags than those that dns tells apart change nothing.
func TestTakeForms(t *testing.T) {
	for _, text := range []string{
		answer(7, "EXAMPLE.Com", 60, ten(1)...),
		message(7, 0x8000, "example.com", record(12, 1, 60, "\x0a\x00\x00\x01")),
		message(7, 0x85f0, "example.com", record(12, 1, 60, "\x0a\x00\x00\x01")),
		answer(7, "example.com", 60, ten(1)...) + "more",
	} {
		r := made(t, 1, 1)
		wantWaits(t, r, 0, 7, "example.com")
		wantTake(t, r, 0, text, true)
		wantKnown(t, r, 59, "example.com", ten(1)...)
		wantAnew(t, r, 60, "example.com")
	}
}

// 16.3: the same answer is taken once: a second time there is no question to it, and what is known stays as it is.
func TestTakeTwice(t *testing.T) {
	for _, first := range []string{answer(7, "a", 60, ten(1)...), answer(7, "a", 0, ten(1)...), answer(7, "a", 0), coded(7, "a", 3)} {
		r := made(t, 4, 3)
		wantWaits(t, r, 0, 7, "a")
		wantWaits(t, r, 0, 7, "b")
		wantTake(t, r, 0, first, true)
		wantKept(t, "what was taken", r, func() {
			for _, now := range []int{0, 1, 5, 59, 60, 61, lastNow} {
				for _, text := range []string{first, answer(7, "a", 99, ten(2)...), coded(7, "a", 2)} {
					wantTake(t, r, now, text, false)
				}
			}
		})
		wantAsked(t, r, "7 b")
	}
}

// 16.3: a name that is asked for anew is answered anew, and the new answer goes in place of the old one.
func TestTakeAnew(t *testing.T) {
	r := made(t, 4, 1)
	know(t, r, 0, "b", 99, ten(9)...)
	for _, c := range []struct {
		now, seconds int
		addrs        []api.Addr
	}{{0, 5, ten(1)}, {5, 9, ten(2, 3)}, {14, 0, nil}, {22, 3, upTo(16)}, {25, 60, ten(4)}} {
		know(t, r, c.now, "a", c.seconds, c.addrs...)
		wantKnown(t, r, c.now, "a", c.addrs...)
		wantKnown(t, r, c.now, "b", ten(9)...)
		wantUsed(t, r, c.now, 2)
	}
}

// 16.3: only an answer to the id of the last time is believed, at each of the times, and none behind them.
func TestTakeOldIds(t *testing.T) {
	r := made(t, 4, 1)
	wantWaits(t, r, 0, 1, "a")
	for i := 1; i <= 3; i++ {
		for id := range 5 {
			c := r.Clone()
			wantTake(t, c, 4*i, answer(id, "a", 60, ten(id)...), id == i)
			if id == i {
				wantKnown(t, c, 4*i, "a", ten(id)...)
			} else {
				wantWaits(t, c, 4*i, 9, "a")
			}
		}
		wantStep(t, r, 4*i, i+1, true)
	}
	for id := range 6 {
		wantTake(t, r, 12, answer(id, "a", 60, ten(id)...), false)
	}
	wantKnown(t, r, 12, "a")
}

// 16.3: an answer that comes late, and at a now at which the question is to be sent again or given up, is taken as long as the question is outstanding.
func TestTakeLate(t *testing.T) {
	for _, now := range []int{0, 3, 4, 12, 1000, lastNow} {
		r := made(t, 4, 1)
		wantWaits(t, r, 3, 7, "a")
		wantTake(t, r, now, answer(7, "a", 60, ten(1)...), true)
		wantKnown(t, r, now, "a", ten(1)...)
		wantUsed(t, r, now+59, 1)
		wantUsed(t, r, now+60, 0)
	}
}

// 16.3: what is taken goes into the table as chapter 11 says: into the slot of that name, else into a free one, else in place of what holds the shortest.
func TestTakeIntoTable(t *testing.T) {
	r := made(t, 3, 2)
	know(t, r, 0, "a", 30, ten(1)...)
	know(t, r, 0, "b", 10, ten(2)...)
	know(t, r, 0, "c", 20, ten(3)...)
	for _, c := range []struct {
		now, seconds int
		name, then   string
	}{{5, 50, "d", "acd"}, {25, 10, "e", "ade"}, {26, 9, "f", "def"}, {36, 5, "a", "ad"}} {
		know(t, r, c.now, c.name, c.seconds, ten(9)...)
		got := ""
		for _, name := range []string{"a", "b", "c", "d", "e", "f"} {
			if kind, _, _ := r.Clone().Ask(c.now, 1, name); kind == resolver.Known {
				got += name
			}
		}
		if got != c.then {
			t.Errorf("at %d known: %s, want %s", c.now, got, c.then)
		}
	}
}
