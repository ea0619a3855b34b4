package resolver_test

import (
	"fmt"
	"math"
	"strings"
	"testing"
	"unsafe"

	"sallyport/api"
	"sallyport/resolver"
)

// Rule 4: bytes that were handed in are neither changed nor kept, be they taken or not.
func TestHandedIn(t *testing.T) {
	r := made(t, 4, 3)
	wantWaits(t, r, 0, 1, "a")
	wantWaits(t, r, 0, 2, "b")
	text := answer(1, "a", 60, upTo(16)...)
	for _, c := range []struct {
		text string
		want bool
	}{{answer(9, "a", 60, ten(9)...), false}, {text, true}, {coded(2, "b", 3), true}, {text, false}} {
		b := []byte(c.text)
		was, e := r.Take(0, b)
		if was != c.want || e != api.OK || string(b) != c.text {
			t.Errorf("Take: %v, %v, the bytes are %x behind it, were %x", was, e, b, c.text)
		}
		wantKept(t, "what is written into the bytes", r, func() {
			for i := range b {
				b[i] = 0xee
			}
		})
	}
	wantKnown(t, r, 0, "a", upTo(16)...)
	wantKnown(t, r, 0, "b")
}

// Rule 4: a name is kept without the text that it was a piece of.
func TestNameHandedIn(t *testing.T) {
	text := strings.Repeat("some.text.", 1000)
	r := made(t, 1, 1)
	wantWaits(t, r, 0, 7, text[:9])
	wantAsked(t, r, "7 some.text")
	if unsafe.StringData(r.Asked()[0].Name) == unsafe.StringData(text) {
		t.Error("the name lies in the text that was handed in")
	}
}

// Rule 4: addresses that were handed out may be written over, and written on behind their end.
func TestAddressesHandedOut(t *testing.T) {
	r := made(t, 2, 2)
	know(t, r, 0, "a", 60, ten(1, 2)...)
	know(t, r, 0, "b", 60, upTo(16)...)
	for range 2 {
		for _, name := range []string{"a", "b"} {
			_, addrs, _ := r.Ask(0, 7, name)
			_, other, _ := r.Ask(0, 7, name)
			clear(addrs[:cap(addrs)])
			if other[0] != ten(1)[0] {
				t.Errorf("two lists of Ask of %q are one", name)
			}
		}
		wantKnown(t, r, 0, "a", ten(1, 2)...)
		wantKnown(t, r, 0, "b", upTo(16)...)
	}
}

// Rule 4: posts and questions that were handed out may be written over, and written on behind their end, and nothing that is told later changes, nor another list.
func TestListsHandedOut(t *testing.T) {
	r := made(t, 2, 3)
	wantWaits(t, r, 0, 1, "a")
	wantWaits(t, r, 0, 2, "b")
	c := r.Clone()
	wantKept(t, "what is written into the posts", c, func() {
		posts := r.Posts()
		for i, post := range posts {
			post = post[:cap(post)]
			for k := range post {
				post[k] = 0xee
			}
			if i == 0 && string(posts[1]) != ask(2, "b") {
				t.Errorf("two posts are one: %x", posts[1])
			}
		}
		clear(posts[:cap(posts)])
	})
	posts := r.Posts()
	wantWaits(t, r, 0, 3, "c")
	_ = append(posts[:0], []byte("junk"))
	wantPosts(t, r, ask(3, "c"))
	wantKept(t, "what is written into the questions", r, func() {
		list, other := r.Asked(), r.Asked()
		clear(list[:cap(list)])
		if fmt.Sprint(other) != "[{1 a} {2 b} {3 c}]" {
			t.Errorf("two lists of Asked are one: %v", other)
		}
		_ = append(r.Asked()[:1], api.Query{ID: 9, Name: "other"})
	})
	wantTake(t, r, 0, answer(1, "a", 9, ten(1)...), true)
	wantAsked(t, r, "2 b", "3 c")
}

// What goes out later does not change a list that was handed out ahead of it.
func TestListsStay(t *testing.T) {
	r := made(t, 4, 3)
	wantWaits(t, r, 0, 1, "a")
	wantWaits(t, r, 0, 2, "b")
	posts, list := r.Posts(), r.Asked()
	wantWaits(t, r, 0, 3, "c")
	wantStep(t, r, 4, 4, true)
	wantTake(t, r, 4, answer(2, "b", 9, ten(1)...), true)
	_, addrs, _ := r.Ask(4, 5, "b")
	wantWaits(t, r, 13, 6, "b")
	wantTake(t, r, 13, answer(6, "b", 9, ten(2)...), true)
	if fmt.Sprint(list) != "[{1 a} {2 b}]" || len(posts) != 2 || string(posts[0]) != ask(1, "a") || string(posts[1]) != ask(2, "b") || fmt.Sprint(addrs) != fmt.Sprint(ten(1)) {
		t.Errorf("what was handed out is %v, %x, %v now", list, posts, addrs)
	}
}

// 16.3: a clone stands where the resolver does: questions with their times and how often they were sent, posts, the table, and both numbers of New.
func TestCloneStandsThere(t *testing.T) {
	for i, r := range someResolvers(t) {
		c := r.Clone()
		if c == nil || c == r {
			t.Fatalf("Clone of resolver %d: %p, of %p", i, c, r)
		}
		want := told(r)
		for k, c := range []*resolver.Resolver{c, c.Clone()} {
			if got := told(c); got != want {
				t.Errorf("Clone of resolver %d (%d):\n%s\nwant\n%s", i, k, got, want)
			}
		}
		late := r.Clone()
		if got, want := told(late), told(r); got != want {
			t.Errorf("Clone of resolver %d behind much:\n%s\nwant\n%s", i, got, want)
		}
	}
}

// told is what a resolver tells while much is done to it, without a clone.
func told(r *resolver.Resolver) string {
	var b strings.Builder
	for now := range 40 {
		fmt.Fprintf(&b, " | %d: %d %q", now, r.Used(now), asked(r))
		for i, name := range append(someNames, "more", "still.more") {
			if (now+i)%3 == 0 {
				kind, addrs, e := r.Ask(now, 50*now+i, name)
				fmt.Fprint(&b, " ", name, kind, addrs, int(e))
			}
		}
		was, _ := r.Step(now, now)
		fmt.Fprint(&b, was, len(r.Asked()))
		if list := r.Asked(); len(list) > 0 && now%5 == 3 {
			q := list[now%len(list)]
			taken, _ := r.Take(now, []byte(answer(q.ID, q.Name, now, ten(now)...)))
			fmt.Fprint(&b, taken)
		}
		if now%7 == 0 {
			fmt.Fprintf(&b, "%x", r.Posts())
		}
	}
	return b.String()
}

// 16.3: a clone is a resolver of its own: what is done to the one changes nothing of the other, questions, posts and table included.
func TestCloneIsItsOwn(t *testing.T) {
	changes := []func(*resolver.Resolver){
		func(r *resolver.Resolver) { r.Ask(4, 99, "other") },
		func(r *resolver.Resolver) { r.Ask(4, 99, "k.b") },
		func(r *resolver.Resolver) { r.Step(5, 99) },
		func(r *resolver.Resolver) { r.Step(lastNow, 99) },
		func(r *resolver.Resolver) { r.Posts() },
		func(r *resolver.Resolver) {
			for _, post := range r.Posts() {
				clear(post[:cap(post)])
			}
		},
		func(r *resolver.Resolver) { clear(r.Asked()) },
		func(r *resolver.Resolver) {
			for _, q := range r.Asked() {
				r.Take(3, []byte(answer(q.ID, q.Name, 60, ten(99)...)))
			}
		},
		func(r *resolver.Resolver) {
			if list := r.Asked(); len(list) > 0 {
				r.Take(3, []byte(coded(list[0].ID, list[0].Name, 3)))
			}
		},
		func(r *resolver.Resolver) { told(r) },
	}
	for i := range someResolvers(t) {
		for k, change := range changes {
			r := someResolvers(t)[i]
			c := r.Clone()
			wantKept(t, fmt.Sprintf("change %d of the clone of %d", k, i), r, func() { change(c) })
			r = someResolvers(t)[i]
			c = r.Clone()
			wantKept(t, fmt.Sprintf("change %d of resolver %d, of its clone,", k, i), c, func() { change(r) })
		}
	}
}

// Rule 2: of a resolver that no call made each call answers ErrNil ahead of all else, or zero values, and nothing is done.
func TestUnmade(t *testing.T) {
	for _, r := range []*resolver.Resolver{nil, {}, new(resolver.Resolver)} {
		for range 2 {
			for _, now := range append([]int{0, 5, lastNow}, wrongNows...) {
				for _, draw := range []int{0, 7, -1, math.MaxInt} {
					for _, name := range []string{"a", "a.b", "", "A", "10.0.0.1", many(1000, 'a')} {
						wantAsk(t, r, now, draw, name, 0, nil, api.ErrNil)
					}
					if was, e := r.Step(now, draw); was || e != api.ErrNil {
						t.Errorf("Step(%d, %d): %v, %v, want ErrNil", now, draw, was, e)
					}
				}
				for _, b := range [][]byte{nil, {}, []byte("junk"), []byte(answer(7, "a", 9, ten(1)...))} {
					if was, e := r.Take(now, b); was || e != api.ErrNil {
						t.Errorf("Take(%d, %x): %v, %v, want ErrNil", now, b, was, e)
					}
				}
				wantUsed(t, r, now, 0)
			}
			wantPosts(t, r)
			wantAsked(t, r)
			if c := r.Clone(); c != nil {
				t.Errorf("Clone: %v, want nil", c)
			}
		}
	}
}
