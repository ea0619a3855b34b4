package resolver_test

import (
	"fmt"
	"math/rand"
	"slices"
	"testing"

	"sallyport/api"
	"sallyport/resolver"
)

// believed is what was told of a name last, of all that was taken, and till when at most.
type believed struct {
	addrs []api.Addr
	till  int
}

// witness knows nothing of how a resolver works: it sees the posts that go out and the answers that go in.
type witness struct {
	r    *resolver.Resolver
	sent map[string]int // of each name the id that was sent last
	told map[string]believed
}

// look goes through the posts that went out.
func (w *witness) look(t *testing.T) {
	t.Helper()
	for _, post := range w.r.Posts() {
		id, name := int(post[0])<<8|int(post[1]), ""
		for at := 12; post[at] != 0; at += int(post[at]) + 1 {
			if name != "" {
				name += "."
			}
			name += string(post[at+1 : at+1+int(post[at])])
		}
		if string(post) != ask(id, name) {
			t.Fatalf("a post that is no question: %x", post)
		}
		w.sent[name] = id
	}
}

// bring hands an answer in: it must be taken only if the last question for that name had that id and is outstanding.
func (w *witness) bring(t *testing.T, now, id int, name string, seconds int, addrs []api.Addr) {
	t.Helper()
	outstanding := slices.Contains(w.r.Asked(), api.Query{ID: id, Name: name})
	last, was := w.sent[name]
	taken, e := w.r.Take(now, []byte(answer(id, name, seconds, addrs...)))
	if e != api.OK || taken != outstanding || taken && (!was || last != id) {
		t.Fatalf("Take(%d, answer to %d %s): %v, %v, outstanding: %v, sent last: %d, %v", now, id, name, taken, e, w.r.Asked(), last, was)
	}
	if taken {
		w.told[name] = believed{addrs, now + max(seconds, 1)}
	}
}

// 16.4: addresses that Ask tells stood in the answer that was taken last to a question for that name, and less than its TTL ago; where it tells none, none stood there, or a question was given up since.
func TestNothingIsMadeUp(t *testing.T) {
	for i, size := range [][2]int{{1, 1}, {2, 3}, {5, 5}, {20, 10}} {
		draw := rand.New(rand.NewSource(int64(500 + i)))
		w := &witness{made(t, size[0], size[1]), map[string]int{}, map[string]believed{}}
		count, known, none := size[0]+3, 0, 0
		for step := range 20000 {
			now := step / 4
			name := fmt.Sprint("n", draw.Intn(count))
			switch draw.Intn(4) {
			case 0:
				w.r.Step(now, draw.Intn(5))
			case 1:
				id, was := w.sent[name]
				if draw.Intn(3) == 0 || !was {
					id = draw.Intn(5)
				}
				addrs := []api.Addr{{A: byte(step >> 16), B: byte(step >> 8), C: byte(step), D: byte(len(name))}, {D: byte(step)}}
				w.bring(t, now, id, name, draw.Intn(12), addrs[:draw.Intn(3)])
			default:
				kind, addrs, e := w.r.Ask(now, draw.Intn(5), name)
				switch b, was := w.told[name]; {
				case e != api.OK:
					t.Fatalf("Ask(%d, .., %s): %v", now, name, e)
				case kind == resolver.Known && len(addrs) == 0:
					none++
				case kind != resolver.Known && len(addrs) == 0:
				case kind != resolver.Known || !was || now >= b.till || !slices.Equal(addrs, b.addrs):
					t.Fatalf("Ask(%d, .., %s): %d, %v, but what was taken last is %v till %d", now, name, kind, addrs, b.addrs, b.till)
				default:
					known++
				}
			}
			w.look(t)
		}
		if known < 300 || none < 100 {
			t.Errorf("%v: %d were known with addresses, %d without", size, known, none)
		}
	}
}

// 16.5: no more questions are outstanding than may be, no two for one name, whatever is asked for.
func TestBounded(t *testing.T) {
	for i, most := range []int{0, 1, 2, 7, 63, api.MaxEnds} {
		draw := rand.New(rand.NewSource(int64(600 + i)))
		r := made(t, 10, most)
		reached := false
		for step := range 5000 {
			r.Ask(step/30, step, fmt.Sprint("n", draw.Intn(200)))
			if draw.Intn(20) == 0 {
				r.Step(step/30, step)
			}
			var names []string
			for _, q := range r.Asked() {
				names = append(names, q.Name)
			}
			slices.Sort(names)
			if all := len(names); all > most || len(slices.Compact(names)) < all {
				t.Fatalf("at most %d, outstanding: %v", most, r.Asked())
			}
			reached = reached || len(names) == most
		}
		if !reached {
			t.Errorf("there were never %d questions outstanding", most)
		}
	}
}

// 16.6: a question without an answer is given up behind Wait times Tries own slots, if each is stepped till there is none; it was sent Tries times then, and that there are no addresses is known.
func TestItEnds(t *testing.T) {
	for _, most := range []int{1, 2, 5, api.MaxEnds} {
		for _, apart := range []int{0, 1, 3} {
			r := made(t, 200, most)
			sent := map[string]int{}
			for now := range apart*most + 13 {
				for k := range most {
					if name := fmt.Sprint("n", k); k*apart == now {
						wantWaits(t, r, now, k, name)
					}
				}
				stepAll(t, r, now)
				for _, post := range r.Posts() {
					sent[string(post[2:])]++
				}
				for k := range most {
					wantEnded(t, r, now, k*apart, fmt.Sprint("n", k), sent)
				}
			}
			wantAsked(t, r)
		}
	}
}

// wantEnded looks at a name that was asked for at a now from which on it is waited for 12 own slots.
func wantEnded(t *testing.T, r *resolver.Resolver, now, from int, name string, sent map[string]int) {
	t.Helper()
	tries := sent[ask(0, name)[2:]]
	switch {
	case now < from || now >= from+16:
	case now < from+12:
		wantWaits(t, r, now, 9, name)
		if want := (now-from)/4 + 1; tries != want {
			t.Errorf("%s, asked for at %d, was sent %d times at %d, want %d", name, from, tries, now, want)
		}
	default:
		wantKnown(t, r, now, name)
		if tries != 3 {
			t.Errorf("%s was given up, and was sent %d times", name, tries)
		}
	}
}

// 16.6: if an own slot has one Step, or is stepped but now and then, each question ends later, but it ends: behind as many Steps as there are questions times what each needs.
func TestItEndsLater(t *testing.T) {
	for _, most := range []int{1, 2, 7, api.MaxEnds} {
		for _, every := range []int{1, 2, 5, 100} {
			r := made(t, 200, most)
			for k := range most {
				wantWaits(t, r, 0, k, fmt.Sprint("n", k))
			}
			for now := 0; now <= (4+most)*3*every; now += every {
				r.Step(now, now)
			}
			wantAsked(t, r)
			if n := len(r.Posts()); n != 3*most {
				t.Errorf("%d questions, a Step every %d slots: %d posts, want %d", most, every, n, 3*most)
			}
		}
	}
}

// stepAll steps at a now till there is none: no more often than there are questions.
func stepAll(t *testing.T, r *resolver.Resolver, now int) {
	t.Helper()
	for steps := 0; ; steps++ {
		was, e := r.Step(now, now+steps)
		if e != api.OK || steps > api.MaxEnds {
			t.Fatalf("Step(%d): %v, behind %d Steps", now, e, steps)
		}
		if !was {
			return
		}
	}
}
