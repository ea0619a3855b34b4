package store_test

import (
	"fmt"
	"math/rand"
	"slices"
	"strings"
	"testing"

	"sallyport/api"
	"sallyport/store"
)

// entry is what the chapter calls so; an empty slot has none, which is nil.
type entry struct {
	key, text string
	put, age  int
	asked     bool
}

func (e *entry) fresh(now int) bool {
	return e != nil && now >= e.put && now < e.put+e.age
}

// model is what the chapter says, said plainly.
type model struct {
	slots      []*entry
	keep, hand int
}

func newModel(slots, keep int) *model {
	return &model{slots: make([]*entry, slots), keep: keep}
}

func (m *model) clone() *model {
	c := newModel(len(m.slots), m.keep)
	c.hand = m.hand
	for i, e := range m.slots {
		if e != nil {
			copied := *e
			c.slots[i] = &copied
		}
	}
	return c
}

func (m *model) find(key string) int {
	return slices.IndexFunc(m.slots, func(e *entry) bool { return e != nil && e.key == key })
}

func (m *model) wrong(now int, key string) bool {
	return now < 0 || now > 1<<40 || key == "" || len(key) > 4096
}

// put goes by the chapter's words one after the other.
func (m *model) put(now int, key, text string, age int) api.Errno {
	if m.wrong(now, key) || age < 1 || age > 1<<20 {
		return api.ErrArg
	}
	if len(text) > m.keep {
		return api.ErrLong
	}
	if len(m.slots) == 0 {
		return api.ErrFull
	}
	e := &entry{key: key, text: text, put: now, age: age}
	if at := m.find(key); at >= 0 {
		m.slots[at] = e
		return api.OK
	}
	if at := slices.Index(m.slots, nil); at >= 0 {
		m.slots[at] = e
		return api.OK
	}
	for m.slots[m.hand].fresh(now) && m.slots[m.hand].asked {
		m.slots[m.hand].asked = false
		m.next()
	}
	m.slots[m.hand] = e
	m.next()
	return api.OK
}

func (m *model) next() {
	m.hand++
	if m.hand == len(m.slots) {
		m.hand = 0
	}
}

func (m *model) get(now int, key string) (string, int, api.Errno) {
	if m.wrong(now, key) {
		return "", 0, api.ErrArg
	}
	at := m.find(key)
	if at < 0 || !m.slots[at].fresh(now) {
		return "", 0, api.ErrNone
	}
	m.slots[at].asked = true
	return m.slots[at].text, now - m.slots[at].put, api.OK
}

func (m *model) drop(key string) bool {
	at := m.find(key)
	if at >= 0 {
		m.slots[at] = nil
	}
	return at >= 0
}

// pair is a store beside its model.
type pair struct {
	x    *store.Store
	m    *model
	puts int
}

func newPair(t *testing.T, slots, keep int) *pair {
	t.Helper()
	return &pair{x: made(t, slots, keep), m: newModel(slots, keep)}
}

func (p *pair) clone() *pair {
	return &pair{p.x.Clone(), p.m.clone(), p.puts}
}

// put has bytes by which it differs from all others, as far as there is room for them.
func (p *pair) put(t *testing.T, now int, key string, size, age int) {
	t.Helper()
	p.puts++
	text := fmt.Sprint(p.puts) + strings.Repeat(".", size)
	text = text[:size]
	wantPut(t, p.x, now, key, text, age, p.m.put(now, key, text, age))
}

func (p *pair) get(t *testing.T, now int, key string) {
	t.Helper()
	if text, old, e := p.m.get(now, key); e == api.OK {
		wantGet(t, p.x, now, key, text, old)
	} else {
		wantNoGet(t, p.x, now, key, e)
	}
}

func (p *pair) drop(t *testing.T, key string) {
	t.Helper()
	wantDrop(t, p.x, key, p.m.drop(key))
}

// check holds all that a store tells at some nows against the model, and 14.4; the Gets, which ask for what they tell, are a clone's.
func (p *pair) check(t *testing.T, nows []int, asked []string) {
	t.Helper()
	keys := make([]string, len(p.m.slots))
	used := 0
	for i, e := range p.m.slots {
		if e != nil {
			keys[i] = e.key
			used++
		}
	}
	wantKeys(t, p.x, keys...)
	wantUsed(t, p.x, used)
	wantHand(t, p.x, p.m.hand)
	c := p.clone()
	for _, now := range nows {
		for _, key := range asked {
			c.get(t, now, key)
		}
	}
}

// call is the how manieth of all calls of three keys at two nows: 12 Puts, 6 Gets, 3 Drops.
func (p *pair) call(t *testing.T, which int) {
	t.Helper()
	key, now := []string{"a", "b", "c"}[which%3], which/3%2
	switch {
	case which < 12:
		p.put(t, now, key, 2, 1+which/6)
	case which < 18:
		p.get(t, now, key)
	default:
		p.drop(t, key)
	}
}

// 14.1, 14.2, 14.4: all rows of a few calls, on small stores that are new or full; on a clone each, so that Clone is looked at too.
func TestAllShortRows(t *testing.T) {
	nows, asked := []int{0, 1, 2, 3}, []string{"a", "b", "c", "d", ""}
	var walk func(p *pair, depth int)
	walk = func(p *pair, depth int) {
		p.check(t, nows, asked)
		if depth == 0 || t.Failed() {
			return
		}
		for which := range 21 {
			next := p.clone()
			next.call(t, which)
			walk(next, depth-1)
		}
	}
	for slots := range 4 {
		walk(newPair(t, slots, 2), 3)
		for first := range slots {
			full := newPair(t, slots, 2)
			for i := range slots + first {
				full.put(t, i%2, fmt.Sprint("full", i), 1, 2)
			}
			full.put(t, 0, "d", 1, 3)
			full.get(t, 1, "d")
			walk(full, 3)
		}
	}
}

// 14.1, 14.2, 14.4: long rows of drawn calls, wrong ones among them, while now rises, falls at times, and jumps.
func TestLongRows(t *testing.T) {
	for i, slots := range []int{0, 1, 2, 3, 5, 8, 17, 40} {
		for _, spare := range []int{1, slots + 3} {
			draw := rand.New(rand.NewSource(int64(i*100 + spare)))
			var asked []string
			for k := range slots + spare {
				asked = append(asked, fmt.Sprint("n", k))
			}
			p := newPair(t, slots, 20)
			now := 0
			for step := range 2000 {
				now = nextNow(draw, now, step)
				p = someCall(t, p, draw, now, asked)
				p.check(t, []int{now, now + draw.Intn(30) - 10}, append(asked, "", "N1", "n"))
				if t.Failed() {
					t.Fatalf("above: %d slots, %d keys, step %d", slots, len(asked), step)
				}
			}
		}
	}
}

// nextNow is near the one ahead of it; it goes to the end of what a now may be at times.
func nextNow(draw *rand.Rand, now, step int) int {
	switch {
	case step%1000 == 700:
		return api.MaxTick - 5
	case step%1000 == 800:
		return 0
	case draw.Intn(10) == 0:
		return now - draw.Intn(10)
	}
	return now + draw.Intn(3)
}

func someCall(t *testing.T, p *pair, draw *rand.Rand, now int, asked []string) *pair {
	t.Helper()
	key := asked[draw.Intn(len(asked))]
	switch draw.Intn(24) {
	case 0:
		return p.clone()
	case 1:
		p.put(t, now, key, draw.Intn(25), draw.Intn(20)-5)
	case 2:
		p.put(t, now, "", 1, 10)
	case 3:
		p.drop(t, key)
	case 4:
		p.get(t, now-draw.Intn(30), key)
	case 5, 6, 7, 8, 9, 10, 11, 12:
		p.get(t, now, key)
	default:
		p.put(t, now, key, draw.Intn(21), 1+draw.Intn(4*len(p.m.slots)+5))
	}
	return p
}

// 14.3: what Get tells is what the last Put of that key was handed, less than its age ago, and no Drop behind it: told by a list of the Puts alone, knowing nothing of slots.
func TestFresh(t *testing.T) {
	for i, slots := range []int{1, 2, 4, 16} {
		draw := rand.New(rand.NewSource(int64(1000 + i)))
		x := made(t, slots, 9)
		last := map[string]entry{}
		found := 0
		for now := range 5000 {
			key := fmt.Sprint("k", draw.Intn(slots+2))
			if draw.Intn(5) == 0 {
				x.Drop(key)
				delete(last, key)
			} else {
				e := entry{key: key, text: fmt.Sprint(now), put: now, age: 1 + draw.Intn(2*slots)}
				put(t, x, now, key, e.text, e.age)
				last[key] = e
			}
			for k := range slots + 2 {
				key := fmt.Sprint("k", k)
				b, old, err := x.Get(now, key)
				if err != api.OK {
					continue
				}
				found++
				if e, is := last[key]; !is || now-e.put >= e.age || old != now-e.put || string(b) != e.text {
					t.Fatalf("Get(%d, %q): %q, %d; last put was %+v, %v", now, key, b, old, e, is)
				}
			}
		}
		if found < 2000 {
			t.Errorf("%d slots: only %d were found", slots, found)
		}
	}
}

// 14.4: whatever is put, there are no more entries than slots, no key has two, and none has more than Keep bytes.
func TestBounded(t *testing.T) {
	for _, slots := range []int{0, 1, 3, 10} {
		x := made(t, slots, 7)
		for i := range 500 {
			key := fmt.Sprint("k", i*7%23)
			x.Put(i/10, key, []byte(long(i%12)), 1+i%90)
			x.Get(i/10, fmt.Sprint("k", i%23))
			if i%40 == 39 {
				x.Drop(key)
			}
			wantBounded(t, x, slots, i/10)
		}
	}
}

func wantBounded(t *testing.T, x *store.Store, slots, now int) {
	t.Helper()
	seen := map[string]int{}
	for _, key := range x.Keys() {
		if key == "" {
			continue
		}
		if seen[key]++; seen[key] > 1 {
			t.Fatalf("Keys: %q has two slots", key)
		}
		if b, _, _ := x.Clone().Get(now, key); len(b) > 7 {
			t.Fatalf("Get(%d, %q): %d bytes", now, key, len(b))
		}
	}
	if n := len(x.Keys()); n != slots || x.Used() != len(seen) {
		t.Fatalf("%d slots: %d keys are told, %d of them not empty, Used: %d", slots, n, len(seen), x.Used())
	}
	if h := x.Hand(); h < 0 || h >= max(slots, 1) {
		t.Fatalf("Hand: %d of %d slots", h, slots)
	}
}

// 14.5: what was asked for, and is fresh, stays, if another entry was not: told by the calls alone, knowing nothing of how the hand goes.
func TestAskedForStays(t *testing.T) {
	for i, slots := range []int{2, 3, 6} {
		draw := rand.New(rand.NewSource(int64(2000 + i)))
		x := made(t, slots, 9)
		stayed, went := 0, 0
		for step := range 9000 {
			now := mid + draw.Intn(10)
			if keys := x.Keys(); draw.Intn(3*slots) > 0 {
				x.Get(now, keys[draw.Intn(slots)])
				continue
			}
			var safe []string
			for at, key := range x.Keys() {
				if _, _, e := x.Clone().Get(now, key); e == api.OK && wasAsked(x, at, now) {
					safe = append(safe, key)
				}
			}
			all := len(safe) == slots
			put(t, x, now, fmt.Sprint("k", step), "", 1+draw.Intn(40))
			for _, key := range safe {
				if !slices.Contains(x.Keys(), key) && !all {
					t.Fatalf("%d slots, step %d: %q was asked for, is fresh, and went", slots, step, key)
				}
			}
			if all {
				went++
			} else {
				stayed += len(safe)
			}
		}
		if stayed < 100 || went < 10 {
			t.Errorf("%d slots: %d stayed, all were asked for %d times", slots, stayed, went)
		}
	}
}

// 14.5: the hand ends in the greatest store too, where all were asked for: it goes by all and takes the one where it stood, and none is asked for any more.
func TestHandEnds(t *testing.T) {
	for _, slots := range []int{1, 2, 64, api.MaxItems} {
		for _, first := range []int{0, slots - 1} {
			x := made(t, slots, 0)
			for i := range slots + first {
				put(t, x, 0, fmt.Sprint("k", i), "", 9)
			}
			keys := x.Keys()
			for _, key := range keys {
				wantGet(t, x, 8, key, "", 8)
			}
			for i := range min(slots, 5) {
				at := (first + i) % slots
				keys[at] = fmt.Sprint("new", i)
				put(t, x, 8, keys[at], "", 9)
				wantKeys(t, x, keys...)
				wantHand(t, x, (at+1)%slots)
			}
		}
	}
}
