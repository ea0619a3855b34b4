package desc_test

import (
	"cmp"
	"maps"
	"math/rand"
	"slices"
	"testing"

	"sallyport/api"
	"sallyport/desc"
)

// thing is what an entry is open with.
type thing struct{ kind, number int }

// model is what the chapter says, said plainly: what is open by its handle, and each entry's generation.
type model struct {
	gens []int
	live map[api.Handle]thing
}

func (m *model) clone() *model {
	return &model{gens: slices.Clone(m.gens), live: maps.Clone(m.live)}
}

func (m *model) isFree(index int) bool {
	_, open := m.live[api.Handle{Index: index, Gen: m.gens[index]}]
	return !open && m.gens[index] <= api.MaxGen
}

func (m *model) open(kind, number int) (api.Handle, api.Errno) {
	for index, gen := range m.gens {
		if m.isFree(index) {
			h := api.Handle{Index: index, Gen: gen}
			m.live[h] = thing{kind, number}
			return h, api.OK
		}
	}
	return api.Handle{}, api.ErrFull
}

// is tells the error of each call that takes a handle, if there is one.
func (m *model) is(h api.Handle) api.Errno {
	if _, open := m.live[h]; open {
		return api.OK
	}
	if h.Index < 0 || h.Index >= len(m.gens) || h.Gen < 1 || h.Gen >= m.gens[h.Index] {
		return api.ErrNone
	}
	return api.ErrStale
}

func (m *model) close(h api.Handle) api.Errno {
	e := m.is(h)
	if e == api.OK {
		delete(m.live, h)
		m.gens[h.Index]++
	}
	return e
}

func (m *model) set(h api.Handle, kind, number int) api.Errno {
	e := m.is(h)
	if e == api.OK {
		m.live[h] = thing{kind, number}
	}
	return e
}

func (m *model) age(index, gen int) api.Errno {
	if index < 0 || index >= len(m.gens) || !m.isFree(index) {
		return api.ErrNone
	}
	if gen < m.gens[index] || gen > api.MaxGen {
		return api.ErrArg
	}
	m.gens[index] = gen
	return api.OK
}

// pair is a table beside its model, with all handles that were ever given and those that were closed.
type pair struct {
	x             *desc.Table
	m             *model
	given, closed map[api.Handle]int
	calls         int
}

func newPair(t *testing.T, entries int) *pair {
	t.Helper()
	m := &model{gens: slices.Repeat([]int{1}, entries), live: map[api.Handle]thing{}}
	return &pair{x: made(t, entries), m: m, given: map[api.Handle]int{}, closed: map[api.Handle]int{}}
}

// clone goes on with the table's clone, so that one that stands elsewhere is found out.
func (p *pair) clone() *pair {
	return &pair{x: p.x.Clone(), m: p.m.clone(), given: maps.Clone(p.given), closed: maps.Clone(p.closed), calls: p.calls}
}

// doOpen opens with numbers that no other call has.
func (p *pair) doOpen(t *testing.T) {
	t.Helper()
	p.calls++
	h, e := p.x.Open(p.calls, -p.calls)
	if wantHandle, want := p.m.open(p.calls, -p.calls); h != wantHandle || e != want {
		t.Errorf("Open: %v, error %d, want %v, error %d", h, e, wantHandle, want)
	}
	if e != api.OK {
		return
	}
	if p.given[h]++; p.given[h] > 1 {
		t.Errorf("Open: %v was given before", h)
	}
}

func (p *pair) doClose(t *testing.T, h api.Handle) {
	t.Helper()
	e := p.x.Close(h)
	wantErrno(t, "Close", e, p.m.close(h))
	if e == api.OK {
		p.closed[h]++
	}
}

func (p *pair) doSet(t *testing.T, h api.Handle) {
	t.Helper()
	p.calls++
	wantErrno(t, "Set", p.x.Set(h, -p.calls, p.calls), p.m.set(h, -p.calls, p.calls))
}

func (p *pair) doAge(t *testing.T, index, gen int) {
	t.Helper()
	wantErrno(t, "Age", p.x.Age(index, gen), p.m.age(index, gen))
}

func (p *pair) doLookup(t *testing.T, h api.Handle) {
	t.Helper()
	kind, number, e := p.x.Lookup(h)
	if want := p.m.is(h); e != want || (thing{kind, number}) != p.m.live[h] {
		t.Errorf("Lookup(%v): %d, %d, error %d, want %v, error %d", h, kind, number, e, p.m.live[h], want)
	}
	if p.closed[h] > 0 && e != api.ErrStale && e != api.ErrNone {
		t.Errorf("Lookup(%v): error %d, though it was closed", h, e)
	}
}

// check holds all that a table tells against the model: handles about each entry's generation, too.
func (p *pair) check(t *testing.T) {
	t.Helper()
	byIndex := func(a, b api.Handle) int { return cmp.Compare(a.Index, b.Index) }
	wantLive(t, p.x, slices.SortedFunc(maps.Keys(p.m.live), byIndex)...)
	if p.x.Used() != len(p.given)-len(p.closed) {
		t.Errorf("Used: %d; %d were opened, %d were closed", p.x.Used(), len(p.given), len(p.closed))
	}
	for index, gen := range p.m.gens {
		for _, near := range []int{-1, 0, 1, gen - 2, gen - 1, gen, gen + 1, gen + 2} {
			p.doLookup(t, at(index, near))
		}
	}
}

// do does the k-th of the short calls on a table.
func (p *pair) do(t *testing.T, k int) {
	t.Helper()
	switch {
	case k == 0:
		p.doOpen(t)
	case k <= 6:
		p.doClose(t, at((k-1)/3, (k-1)%3+1))
	case k <= 9:
		p.doClose(t, at(k-7, api.MaxGen))
	case k <= 12:
		p.doSet(t, at(k-10, 1))
	default:
		p.doAge(t, (k-13)/2, 2+(api.MaxGen-2)*((k-13)%2))
	}
}

// 3.1 to 3.5: all short calls, one behind the other in each order, on small tables; on a clone each, so that Clone is looked at too.
func TestAllShortRuns(t *testing.T) {
	var walk func(p *pair, depth int)
	walk = func(p *pair, depth int) {
		p.check(t)
		if depth == 0 || t.Failed() {
			return
		}
		for k := range 17 {
			next := p.clone()
			next.do(t, k)
			walk(next, depth-1)
		}
	}
	for entries := range 4 {
		walk(newPair(t, entries), 4)
	}
}

// 3.1 to 3.5: long runs, in which tables are full and empty many times and entries grow old till they are spent.
func TestLongRuns(t *testing.T) {
	for i, entries := range []int{1, 2, 5, 17, 64, 65} {
		draw := rand.New(rand.NewSource(int64(i)))
		p := newPair(t, entries)
		for step := range 3000 {
			someCall(t, p, draw, step/500%2)
			p.check(t)
			if t.Failed() {
				return
			}
		}
	}
}

// someHandle is one that was given, or one near a right one.
func someHandle(p *pair, draw *rand.Rand) api.Handle {
	if live := p.x.Live(); len(live) > 0 && draw.Intn(2) == 0 {
		return live[draw.Intn(len(live))]
	}
	index := draw.Intn(len(p.m.gens)+2) - 1
	if index < 0 || index == len(p.m.gens) {
		return at(index, 1)
	}
	return at(index, p.m.gens[index]-2+draw.Intn(5))
}

// someCall fills the table where lean is 0 and empties it where lean is 1, more often than not.
func someCall(t *testing.T, p *pair, draw *rand.Rand, lean int) {
	t.Helper()
	h := someHandle(p, draw)
	switch k := draw.Intn(40); {
	case k == 0:
		*p = *p.clone()
	case k == 1:
		p.doAge(t, h.Index, h.Gen+draw.Intn(100))
	case k == 2 && draw.Intn(20) == 0:
		p.doAge(t, h.Index, api.MaxGen-draw.Intn(3))
	case k < 10:
		p.doSet(t, h)
	case k < 20+lean*10:
		p.doClose(t, h)
	default:
		p.doOpen(t)
	}
}
