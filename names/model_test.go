package names_test

import (
	"fmt"
	"math/rand"
	"slices"
	"testing"

	"sallyport/api"
	"sallyport/names"
)

// entry is what the chapter calls so; one without a name is none.
type entry struct {
	name     string
	addrs    []api.Addr
	put, ttl int
}

func (e entry) holds(now int) bool {
	return e.name != "" && now < e.put+e.ttl
}

// model is what the chapter says, said plainly.
type model []entry

// place goes by the chapter's words one after the other.
func (m model) place(now int, name string) int {
	for i, e := range m {
		if e.name == name {
			return i
		}
	}
	for i, e := range m {
		if !e.holds(now) {
			return i
		}
	}
	shortest := 0
	for i := len(m) - 1; i >= 0; i-- {
		if m[i].put+m[i].ttl <= m[shortest].put+m[shortest].ttl {
			shortest = i
		}
	}
	return shortest
}

func (m model) set(now int, name string, addrs []api.Addr, ttl int) api.Errno {
	if now < 0 || now > 1<<40 || name == "" || len(name) > 253 || len(addrs) > 16 || ttl < 0 || ttl > 1<<20 {
		return api.ErrArg
	}
	if len(m) == 0 {
		return api.ErrFull
	}
	at := m.place(now, name)
	if ttl > 0 {
		m[at] = entry{name, slices.Clone(addrs), now, ttl}
	} else if m[at].name == name {
		m[at] = entry{}
	}
	return api.OK
}

func (m model) find(now int, name string) (entry, api.Errno) {
	if now < 0 || now > 1<<40 {
		return entry{}, api.ErrArg
	}
	for _, e := range m {
		if e.name == name && e.holds(now) {
			return e, api.OK
		}
	}
	return entry{}, api.ErrNone
}

// pair is a table beside its model.
type pair struct {
	x    *names.Table
	m    model
	puts int
}

func (p pair) clone() pair {
	return pair{p.x.Clone(), slices.Clone(p.m), p.puts}
}

// put has addresses by which it differs from all others.
func (p *pair) put(t *testing.T, now int, name string, count, ttl int) {
	t.Helper()
	p.puts++
	var addrs []api.Addr
	for i := range count {
		addrs = append(addrs, api.Addr{A: byte(p.puts >> 16), B: byte(p.puts >> 8), C: byte(p.puts), D: byte(i)})
	}
	wantPut(t, p.x, now, name, addrs, ttl, p.m.set(now, name, addrs, ttl))
}

// check holds all that a table tells at a now against the model, and 11.4.
func (p *pair) check(t *testing.T, now int, asked []string) {
	t.Helper()
	var list []string
	used := 0
	seen := map[string]int{}
	for _, e := range p.m {
		list = append(list, e.name)
		if now >= 0 && now <= 1<<40 && e.holds(now) {
			used++
		}
	}
	wantList(t, p.x, list...)
	wantUsed(t, p.x, now, used)
	for _, name := range p.x.List() {
		if seen[name]++; name != "" && seen[name] > 1 {
			t.Errorf("List: %q has two slots", name)
		}
	}
	for _, name := range asked {
		if e, want := p.m.find(now, name); want == api.OK {
			wantGet(t, p.x, now, name, e.addrs, e.put+e.ttl-now)
		} else {
			wantNoGet(t, p.x, now, name, want)
		}
	}
}

// 11.1, 11.2, 11.4: all rows of a few Puts, of three names at three nows with three TTLs, into small tables; on a clone each, so that Clone is looked at too.
func TestAllShortRows(t *testing.T) {
	asked := []string{"a", "b", "c", ""}
	var walk func(p pair, depth int)
	walk = func(p pair, depth int) {
		for now := range 6 {
			p.check(t, now, asked)
		}
		if depth == 0 || t.Failed() {
			return
		}
		for k := range 27 {
			next := p.clone()
			next.put(t, k/3%3, asked[k%3], depth%2, k/9)
			walk(next, depth-1)
		}
	}
	for slots := range 4 {
		walk(pair{x: made(t, slots), m: make(model, slots)}, 3)
	}
}

// 11.1, 11.2, 11.4: long rows of drawn calls, wrong ones among them, while now rises, falls at times, and jumps.
func TestLongRows(t *testing.T) {
	for i, slots := range []int{0, 1, 2, 3, 5, 8, 17, 40} {
		draw := rand.New(rand.NewSource(int64(i)))
		var asked []string
		for k := range slots*2 + 3 {
			asked = append(asked, fmt.Sprint("n", k))
		}
		p := pair{x: made(t, slots), m: make(model, slots)}
		now := 0
		for step := range 4000 {
			now = nextNow(draw, now, step)
			someCall(t, &p, draw, now, asked)
			p.check(t, now, asked)
			p.check(t, now+draw.Intn(30)-10, append(asked, "", "N1", "n"))
			if t.Failed() {
				t.Fatalf("above: %d slots, step %d", slots, step)
			}
		}
	}
}

// nextNow is near the one ahead of it; it goes to the end of what a now may be at times.
func nextNow(draw *rand.Rand, now, step int) int {
	switch {
	case step%1000 == 700:
		return api.MaxTick - 5
	case step%1000 == 800:
		return 0
	case draw.Intn(10) == 0:
		return now - draw.Intn(10)
	}
	return now + draw.Intn(3)
}

func someCall(t *testing.T, p *pair, draw *rand.Rand, now int, asked []string) {
	t.Helper()
	name := asked[draw.Intn(len(asked))]
	switch draw.Intn(20) {
	case 0:
		*p = p.clone()
	case 1:
		p.put(t, now, name, draw.Intn(40), draw.Intn(20)-5)
	case 2:
		p.put(t, now, "", 1, 10)
	case 3, 4, 5:
		p.put(t, now, name, 1, 0)
	default:
		p.put(t, now, name, draw.Intn(17), 1+draw.Intn(len(p.m)+5))
	}
}

// 11.3: what Get tells is what the last Put of that name was handed, less than its TTL ago: told by a list of the Puts alone, knowing nothing of slots.
func TestFresh(t *testing.T) {
	for i, slots := range []int{1, 2, 4, 16} {
		draw := rand.New(rand.NewSource(int64(100 + i)))
		x := made(t, slots)
		last := map[string]entry{}
		found := 0
		for now := range 5000 {
			name := letter(draw.Intn(slots + 2))
			e := entry{name, addresses(now%256, now/256), now, draw.Intn(2 * slots)}
			put(t, x, now, name, e.addrs, e.ttl)
			last[name] = e
			for name, e := range last {
				addrs, left, err := x.Get(now, name)
				if err != api.OK {
					continue
				}
				found++
				if now-e.put >= e.ttl || left != e.put+e.ttl-now || !slices.Equal(addrs, e.addrs) {
					t.Fatalf("Get(%d, %q): %v, %d; last put was %+v", now, name, addrs, left, e)
				}
			}
		}
		if found < 2000 {
			t.Errorf("%d slots: only %d were found", slots, found)
		}
	}
}

// 11.4: whatever is put, no more entries hold than there are slots, and no more names are told.
func TestBounded(t *testing.T) {
	for _, slots := range []int{0, 1, 3, 10} {
		x := made(t, slots)
		for i := range 200 {
			x.Put(i/10, fmt.Sprint("n", i%50), nil, 1+i%90)
			if n := x.Used(i / 10); n > slots || n < min(i/10, 1, slots) {
				t.Fatalf("Used: %d of %d slots", n, slots)
			}
			if n := len(x.List()); n != slots {
				t.Fatalf("List: %d names in %d slots", n, slots)
			}
		}
	}
}

// 11.5: as long as fewer names are put than there are slots, and just as many too, each is found till its time is over, however often they are put and taken away.
func TestFewNamesAreFound(t *testing.T) {
	for i, slots := range []int{1, 2, 3, 7, 20} {
		draw := rand.New(rand.NewSource(int64(200 + i)))
		x := made(t, slots)
		last := map[string]entry{}
		for now := range 3000 {
			name := letter(draw.Intn(slots))
			e := entry{name, addresses(now % 256), now, draw.Intn(3 * slots)}
			put(t, x, now, name, e.addrs, e.ttl)
			last[name] = e
			for name, e := range last {
				if e.holds(now) {
					wantGet(t, x, now, name, e.addrs, e.put+e.ttl-now)
				} else {
					wantNoGet(t, x, now, name, api.ErrNone)
				}
			}
			if t.Failed() {
				t.Fatalf("above: %d slots", slots)
			}
		}
	}
}
