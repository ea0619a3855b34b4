package desc_test

import (
	"fmt"
	"math"
	"slices"
	"testing"

	"sallyport/api"
	"sallyport/desc"
)

// at is the handle of an entry at a generation.
func at(index, gen int) api.Handle {
	return api.Handle{Index: index, Gen: gen}
}

// made is a new table of a number that may be.
func made(t *testing.T, entries int) *desc.Table {
	t.Helper()
	x, e := desc.New(entries)
	if e != api.OK || x == nil {
		t.Fatalf("New(%d): %v, error %d", entries, x, e)
	}
	return x
}

func wantErrno(t *testing.T, what string, got, want api.Errno) {
	t.Helper()
	if got != want {
		t.Errorf("%s: error %d, want %d", what, got, want)
	}
}

func wantOpen(t *testing.T, x *desc.Table, kind, number int, want api.Handle) {
	t.Helper()
	if got, e := x.Open(kind, number); got != want || e != api.OK {
		t.Errorf("Open(%d, %d): %v, error %d, want %v", kind, number, got, e, want)
	}
}

func wantOpenRefused(t *testing.T, x *desc.Table, want api.Errno) {
	t.Helper()
	if got, e := x.Open(7, 8); got != (api.Handle{}) || e != want {
		t.Errorf("Open: %v, error %d, want {0 0}, error %d", got, e, want)
	}
}

func wantLookup(t *testing.T, x *desc.Table, h api.Handle, kind, number int) {
	t.Helper()
	if k, n, e := x.Lookup(h); k != kind || n != number || e != api.OK {
		t.Errorf("Lookup(%v): %d, %d, error %d, want %d, %d", h, k, n, e, kind, number)
	}
}

// wantRefused holds all three calls that take a handle against one error.
func wantRefused(t *testing.T, x *desc.Table, h api.Handle, want api.Errno) {
	t.Helper()
	if k, n, e := x.Lookup(h); k != 0 || n != 0 || e != want {
		t.Errorf("Lookup(%v): %d, %d, error %d, want 0, 0, error %d", h, k, n, e, want)
	}
	wantErrno(t, fmt.Sprintf("Set(%v)", h), x.Set(h, -7, -8), want)
	wantErrno(t, fmt.Sprintf("Close(%v)", h), x.Close(h), want)
}

// wantLive holds Used and Live against which handles should be open.
func wantLive(t *testing.T, x *desc.Table, want ...api.Handle) {
	t.Helper()
	if got := x.Live(); !slices.Equal(got, want) {
		t.Errorf("Live: %v, want %v", got, want)
	}
	if got := x.Used(); got != len(want) {
		t.Errorf("Used: %d, want %d", got, len(want))
	}
}

// told is all that later calls could tell of a table: what is open, and which handles the free entries will have.
func told(x *desc.Table) string {
	s := fmt.Sprint(x.Used(), x.Live())
	for _, h := range x.Live() {
		k, n, e := x.Lookup(h)
		s += fmt.Sprint(" ", h, k, n, int(e))
	}
	rest := x.Clone()
	for {
		h, e := rest.Open(0, 0)
		if e != api.OK {
			return s + fmt.Sprint(" then error ", int(e))
		}
		s += fmt.Sprint(" next ", h)
	}
}

func wantTold(t *testing.T, what string, x *desc.Table, want string) {
	t.Helper()
	if got := told(x); got != want {
		t.Errorf("%s: it stands at %s, want %s", what, got, want)
	}
}

// mixed is a table of six: 0 open at 3, 1 free at 3, 2 spent, 3 open at MaxGen, 4 free at MaxGen, 5 free at 1.
func mixed(t *testing.T) *desc.Table {
	t.Helper()
	x := made(t, 6)
	for _, age := range []struct{ index, gen int }{{0, 3}, {1, 2}, {2, api.MaxGen}, {3, api.MaxGen}, {4, api.MaxGen - 1}} {
		wantErrno(t, "Age", x.Age(age.index, age.gen), api.OK)
	}
	wantOpen(t, x, 10, 100, at(0, 3))
	wantOpen(t, x, 11, 101, at(1, 2))
	wantOpen(t, x, 12, 102, at(2, api.MaxGen))
	wantOpen(t, x, 13, 103, at(3, api.MaxGen))
	wantOpen(t, x, 14, 104, at(4, api.MaxGen-1))
	wantErrno(t, "Close", x.Close(at(1, 2)), api.OK)
	wantErrno(t, "Close", x.Close(at(2, api.MaxGen)), api.OK)
	wantErrno(t, "Close", x.Close(at(4, api.MaxGen-1)), api.OK)
	return x
}

// wantMixed holds a table against what mixed made.
func wantMixed(t *testing.T, what string, x *desc.Table) {
	t.Helper()
	wantTold(t, what, x, "2 [{0 3} {3 1048576}] {0 3} 10 100 0 {3 1048576} 13 103 0"+
		" next {1 3} next {4 1048576} next {5 1} then error 4")
}

// 3.1: the chapter's example.
func TestExample(t *testing.T) {
	x := made(t, 1)
	wantOpen(t, x, 7, 8, at(0, 1))
	wantOpenRefused(t, x, api.ErrFull)
	wantErrno(t, "Close", x.Close(at(0, 1)), api.OK)
	wantRefused(t, x, at(0, 1), api.ErrStale)
	wantOpen(t, x, 9, 9, at(0, 2))
	wantRefused(t, x, at(0, 3), api.ErrNone)
	wantLookup(t, x, at(0, 2), 9, 9)
}

// 3.1: numbers that may be: all entries are free, at generation 1, and there are as many as were asked for.
func TestNew(t *testing.T) {
	for _, entries := range []int{0, 1, 2, 63, 64, 65, api.MaxItems - 1, api.MaxItems} {
		x := made(t, entries)
		wantLive(t, x)
		for index := range entries {
			wantRefused(t, x, at(index, 1), api.ErrNone)
		}
		var all []api.Handle
		for index := range entries {
			wantOpen(t, x, index, -index, at(index, 1))
			all = append(all, at(index, 1))
		}
		wantOpenRefused(t, x, api.ErrFull)
		wantLive(t, x, all...)
		for index, h := range all {
			wantLookup(t, x, h, index, -index)
		}
		wantRefused(t, x, at(entries, 1), api.ErrNone)
		wantErrno(t, "Age", x.Age(entries, 1), api.ErrNone)
	}
}

// 3.1, P1: numbers that may not be; with an error there is no table.
func TestNewRefused(t *testing.T) {
	for _, entries := range []int{math.MinInt, math.MinInt32, -api.MaxItems, -2, -1, api.MaxItems + 1, api.MaxItems + 2, 2 * api.MaxItems, math.MaxInt32, 1 << 32, math.MaxInt} {
		if x, e := desc.New(entries); x != nil || e != api.ErrArg {
			t.Errorf("New(%d): %v, error %d, want nil, ErrArg", entries, x, e)
		}
	}
}

// 3.1: Open takes the least free entry, whatever was closed before; each entry has a generation of its own.
func TestOpenLeast(t *testing.T) {
	x := made(t, 5)
	for index := range 5 {
		wantOpen(t, x, 1, 1, at(index, 1))
	}
	for _, index := range []int{4, 1, 3} {
		wantErrno(t, "Close", x.Close(at(index, 1)), api.OK)
	}
	wantLive(t, x, at(0, 1), at(2, 1))
	wantOpen(t, x, 1, 1, at(1, 2))
	wantErrno(t, "Close", x.Close(at(0, 1)), api.OK)
	wantErrno(t, "Close", x.Close(at(1, 2)), api.OK)
	wantOpen(t, x, 1, 1, at(0, 2))
	wantOpen(t, x, 1, 1, at(1, 3))
	wantOpen(t, x, 1, 1, at(3, 2))
	wantLive(t, x, at(0, 2), at(1, 3), at(2, 1), at(3, 2))
	wantOpen(t, x, 1, 1, at(4, 2))
	wantOpenRefused(t, x, api.ErrFull)
}

// 3.1: kind and number may be whatever they are, and each entry has its own.
func TestKindAndNumber(t *testing.T) {
	numbers := []int{0, 1, -1, 7, math.MaxInt, math.MinInt, api.MaxGen + 1}
	x := made(t, len(numbers)*len(numbers))
	for i, kind := range numbers {
		for j, number := range numbers {
			wantOpen(t, x, kind, number, at(i*len(numbers)+j, 1))
		}
	}
	for i, kind := range numbers {
		for j, number := range numbers {
			wantLookup(t, x, at(i*len(numbers)+j, 1), kind, number)
		}
	}
}

// 3.1: Set changes what one entry has, and nothing else: its handle stays right, and others keep theirs.
func TestSet(t *testing.T) {
	x := made(t, 4)
	for index := range 3 {
		wantOpen(t, x, index, 10+index, at(index, 1))
	}
	for _, c := range []struct{ kind, number int }{{5, 6}, {0, 0}, {math.MinInt, math.MaxInt}, {math.MaxInt, math.MinInt}, {-1, -1}} {
		wantErrno(t, "Set", x.Set(at(1, 1), c.kind, c.number), api.OK)
		wantLookup(t, x, at(1, 1), c.kind, c.number)
		wantLookup(t, x, at(0, 1), 0, 10)
		wantLookup(t, x, at(2, 1), 2, 12)
		wantLive(t, x, at(0, 1), at(1, 1), at(2, 1))
	}
	wantErrno(t, "Close", x.Close(at(1, 1)), api.OK)
	wantOpen(t, x, 8, 9, at(1, 2))
	wantLookup(t, x, at(1, 2), 8, 9)
}

// 3.1: an entry that was closed is opened with what Open is given, not with what it had.
func TestOpenAnew(t *testing.T) {
	x := made(t, 1)
	wantOpen(t, x, 7, 8, at(0, 1))
	wantErrno(t, "Close", x.Close(at(0, 1)), api.OK)
	wantOpen(t, x, 0, 0, at(0, 2))
	wantLookup(t, x, at(0, 2), 0, 0)
	wantErrno(t, "Set", x.Set(at(0, 2), 3, 4), api.OK)
	wantErrno(t, "Close", x.Close(at(0, 2)), api.OK)
	wantOpen(t, x, 0, 1, at(0, 3))
	wantLookup(t, x, at(0, 3), 0, 1)
}

// 3.1, P2: handles of which none may be looked up, set or closed, and which error is told; nothing is changed.
func TestRefusedHandles(t *testing.T) {
	const none, stale, last = api.ErrNone, api.ErrStale, api.MaxGen
	x := mixed(t)
	for _, c := range []struct {
		h    api.Handle
		want api.Errno
	}{
		// Open at 3.
		{at(0, 1), stale}, {at(0, 2), stale}, {at(0, 4), none}, {at(0, 5), none}, {at(0, last), none}, {at(0, last+1), none},
		// Free, to be at 3.
		{at(1, 1), stale}, {at(1, 2), stale}, {at(1, 3), none}, {at(1, 4), none}, {at(1, last), none}, {at(1, last+1), none},
		// Spent: its generation is one more than the last one.
		{at(2, 1), stale}, {at(2, last-1), stale}, {at(2, last), stale}, {at(2, last+1), none}, {at(2, last+2), none},
		// Open at the last one.
		{at(3, 1), stale}, {at(3, last-1), stale}, {at(3, last+1), none}, {at(3, last+2), none},
		// Free, to be at the last one.
		{at(4, 1), stale}, {at(4, last-2), stale}, {at(4, last-1), stale}, {at(4, last), none}, {at(4, last+1), none},
		// Free, and never opened.
		{at(5, 1), none}, {at(5, 2), none}, {at(5, last), none},
	} {
		wantRefused(t, x, c.h, c.want)
		wantMixed(t, fmt.Sprint("after ", c.h), x)
	}
	wantLookup(t, x, at(0, 3), 10, 100)
	wantLookup(t, x, at(3, last), 13, 103)
}

// 3.1, P1, P2: a Gen below 1 is below the entry's generation too: ErrNone is named first. So is it for a Gen that no entry has.
func TestGenBeyond(t *testing.T) {
	x := mixed(t)
	for index := range 6 {
		for _, gen := range []int{math.MinInt, math.MinInt32, -api.MaxGen, -3, -1, 0, api.MaxGen + 2, math.MaxInt32, 1<<32 + 3, math.MaxInt} {
			wantRefused(t, x, at(index, gen), api.ErrNone)
		}
	}
	wantMixed(t, "after all", x)
}

// 3.1, P1, P2: an Index that is none of the table's, at whatever Gen.
func TestIndexBeyond(t *testing.T) {
	x := mixed(t)
	for _, index := range []int{math.MinInt, math.MinInt32, -api.MaxItems, -6, -2, -1, 6, 7, api.MaxItems - 1, api.MaxItems, math.MaxInt32, 1 << 32, math.MaxInt} {
		for _, gen := range []int{math.MinInt, -1, 0, 1, 2, 3, 4, api.MaxGen, api.MaxGen + 1, math.MaxInt} {
			wantRefused(t, x, at(index, gen), api.ErrNone)
		}
	}
	wantMixed(t, "after all", x)
}

// 3.1: a table without entries is a table.
func TestNoEntries(t *testing.T) {
	x := made(t, 0)
	wantOpenRefused(t, x, api.ErrFull)
	for _, h := range []api.Handle{{}, at(0, 1), at(-1, 1), at(1, 1)} {
		wantRefused(t, x, h, api.ErrNone)
	}
	wantErrno(t, "Age", x.Age(0, 1), api.ErrNone)
	wantLive(t, x)
	c := x.Clone()
	if c == nil || c == x {
		t.Fatal("Clone of a table without entries: no table of its own")
	}
	wantOpenRefused(t, c, api.ErrFull)
}

// 3.2: Age of a free entry: from its generation to MaxGen, that is its generation then, and no other entry's.
func TestAge(t *testing.T) {
	for _, gen := range []int{1, 2, 3, 1000, api.MaxGen - 1, api.MaxGen} {
		x := made(t, 3)
		wantErrno(t, "Age", x.Age(1, gen), api.OK)
		wantTold(t, "after Age", x, fmt.Sprintf("0 [] next {0 1} next {1 %d} next {2 1} then error 4", gen))
		wantRefused(t, x, at(1, gen), api.ErrNone)
		if gen > 1 {
			wantRefused(t, x, at(1, 1), api.ErrStale)
			wantRefused(t, x, at(1, gen-1), api.ErrStale)
			wantErrno(t, "Age back", x.Age(1, gen-1), api.ErrArg)
		}
		wantOpen(t, x, 1, 1, at(0, 1))
		wantOpen(t, x, 5, 6, at(1, gen))
		wantLookup(t, x, at(1, gen), 5, 6)
		wantLive(t, x, at(0, 1), at(1, gen))
	}
}

// 3.2: Age may be told again and again, as long as the generation does not fall; Close goes on from it.
func TestAgeAgain(t *testing.T) {
	x := made(t, 1)
	for _, gen := range []int{1, 1, 5, 5, 9} {
		wantErrno(t, "Age", x.Age(0, gen), api.OK)
	}
	wantOpen(t, x, 1, 2, at(0, 9))
	wantErrno(t, "Close", x.Close(at(0, 9)), api.OK)
	wantErrno(t, "Age below", x.Age(0, 9), api.ErrArg)
	wantErrno(t, "Age at", x.Age(0, 10), api.OK)
	wantOpen(t, x, 1, 2, at(0, 10))
}

// 3.2, P2: a gen that is below the entry's generation or above MaxGen: ErrArg, and nothing is changed.
func TestAgeWrongGen(t *testing.T) {
	x := mixed(t)
	for _, gen := range []int{math.MinInt, math.MinInt32, -api.MaxGen, -1, 0, api.MaxGen + 1, api.MaxGen + 2, math.MaxInt32, math.MaxInt} {
		for _, index := range []int{1, 4, 5} {
			wantErrno(t, "Age", x.Age(index, gen), api.ErrArg)
		}
	}
	wantErrno(t, "Age(1, 1)", x.Age(1, 1), api.ErrArg)
	wantErrno(t, "Age(1, 2)", x.Age(1, 2), api.ErrArg)
	wantErrno(t, "Age(4, MaxGen - 1)", x.Age(4, api.MaxGen-1), api.ErrArg)
	wantMixed(t, "after all", x)
	wantErrno(t, "Age(1, 3)", x.Age(1, 3), api.OK)
	wantErrno(t, "Age(4, MaxGen)", x.Age(4, api.MaxGen), api.OK)
	wantErrno(t, "Age(5, 1)", x.Age(5, 1), api.OK)
	wantMixed(t, "after those that change nothing", x)
}

// 3.2, P1, P2: an entry that is not there, or is open or spent: ErrNone, named ahead of ErrArg.
func TestAgeNone(t *testing.T) {
	x := mixed(t)
	for _, index := range []int{math.MinInt, -api.MaxItems, -1, 0, 2, 3, 6, 7, api.MaxItems, math.MaxInt} {
		for _, gen := range []int{math.MinInt, -1, 0, 1, 2, 3, 4, api.MaxGen - 1, api.MaxGen, api.MaxGen + 1, api.MaxGen + 2, math.MaxInt} {
			wantErrno(t, fmt.Sprintf("Age(%d, %d)", index, gen), x.Age(index, gen), api.ErrNone)
		}
	}
	wantMixed(t, "after all", x)
}

// 3.1, 3.2: an entry at MaxGen is opened once more, and then never again.
func TestSpent(t *testing.T) {
	x := made(t, 2)
	wantErrno(t, "Age", x.Age(0, api.MaxGen-1), api.OK)
	wantOpen(t, x, 1, 2, at(0, api.MaxGen-1))
	wantErrno(t, "Close", x.Close(at(0, api.MaxGen-1)), api.OK)
	wantOpen(t, x, 3, 4, at(0, api.MaxGen))
	wantLookup(t, x, at(0, api.MaxGen), 3, 4)
	wantErrno(t, "Set", x.Set(at(0, api.MaxGen), 5, 6), api.OK)
	wantLookup(t, x, at(0, api.MaxGen), 5, 6)
	wantLive(t, x, at(0, api.MaxGen))
	wantErrno(t, "Close", x.Close(at(0, api.MaxGen)), api.OK)
	wantLive(t, x)
	for range 3 {
		wantRefused(t, x, at(0, api.MaxGen), api.ErrStale)
		wantRefused(t, x, at(0, api.MaxGen+1), api.ErrNone)
		wantErrno(t, "Age", x.Age(0, api.MaxGen), api.ErrNone)
	}
	wantOpen(t, x, 7, 8, at(1, 1))
	wantOpenRefused(t, x, api.ErrFull)
	wantErrno(t, "Close", x.Close(at(1, 1)), api.OK)
	wantOpen(t, x, 7, 8, at(1, 2))
	wantOpenRefused(t, x, api.ErrFull)
}

// 3.1: a table of which all entries are spent has none free, for good.
func TestAllSpent(t *testing.T) {
	x := made(t, 3)
	for index := range 3 {
		wantErrno(t, "Age", x.Age(index, api.MaxGen), api.OK)
		wantOpen(t, x, 1, 1, at(index, api.MaxGen))
		wantErrno(t, "Close", x.Close(at(index, api.MaxGen)), api.OK)
	}
	for range 3 {
		wantOpenRefused(t, x, api.ErrFull)
		wantLive(t, x)
	}
}

// 3.1, 3.3, 3.4: all generations of an entry, one by one, without Age: each handle is a new one, till it is spent.
func TestAllGenerations(t *testing.T) {
	x := made(t, 1)
	for gen := 1; gen <= api.MaxGen; gen++ {
		h, e := x.Open(gen, -gen)
		if h != at(0, gen) || e != api.OK {
			t.Fatalf("Open: %v, error %d, want {0 %d}", h, e, gen)
		}
		if e := x.Close(h); e != api.OK {
			t.Fatalf("Close(%v): error %d", h, e)
		}
		if _, _, e := x.Lookup(h); e != api.ErrStale {
			t.Fatalf("Lookup(%v): error %d, want ErrStale", h, e)
		}
	}
	wantOpenRefused(t, x, api.ErrFull)
	for _, gen := range []int{1, 2, api.MaxGen - 1, api.MaxGen} {
		wantRefused(t, x, at(0, gen), api.ErrStale)
	}
}

// 3.3: a handle that was closed is looked up never again, whatever is opened then.
func TestNoOldHandle(t *testing.T) {
	x := made(t, 3)
	var old []api.Handle
	for round := range 40 {
		for x.Used() < 3 {
			if _, e := x.Open(round, round); e != api.OK {
				t.Fatalf("Open: error %d", e)
			}
		}
		h := x.Live()[round%3]
		wantErrno(t, "Close", x.Close(h), api.OK)
		old = append(old, h)
		for _, h := range old {
			before := told(x)
			wantRefused(t, x, h, api.ErrStale)
			wantTold(t, "after refusals", x, before)
		}
	}
}

// 3.4: handles that were ever given are all different, be entries closed in whatever order and aged between.
func TestNoTwo(t *testing.T) {
	x := made(t, 4)
	given := map[api.Handle]int{}
	for step := range 2000 {
		h, e := x.Open(step, step)
		if e == api.OK {
			if before, twice := given[h]; twice {
				t.Fatalf("Open: %v at step %d and at step %d", h, before, step)
			}
			given[h] = step
		}
		if live := x.Live(); step%3 != 0 {
			wantErrno(t, "Close", x.Close(live[step*7%len(live)]), api.OK)
		}
		x.Age(step%4, 1+step*5%900)
	}
	if len(given) < 1000 {
		t.Errorf("only %d handles were given", len(given))
	}
}

// 3.5, P2: a table that is full refuses again and again, and nothing changes.
func TestFull(t *testing.T) {
	x := made(t, 3)
	for index := range 3 {
		wantOpen(t, x, index, 10+index, at(index, 1))
	}
	before := told(x)
	for range 5 {
		wantOpenRefused(t, x, api.ErrFull)
		wantTold(t, "after Open", x, before)
	}
	wantErrno(t, "Close", x.Close(at(1, 1)), api.OK)
	wantOpen(t, x, 5, 5, at(1, 2))
	wantOpenRefused(t, x, api.ErrFull)
	wantLive(t, x, at(0, 1), at(1, 2), at(2, 1))
}

// Rules 4: the list of Live is the caller's own.
func TestLiveIsCallersOwn(t *testing.T) {
	x := mixed(t)
	live, again := x.Live(), x.Live()
	live[0], live[1] = at(5, 9), at(4, 9)
	_ = append(live[:0], at(1, 1), at(1, 1), at(1, 1))
	wantMixed(t, "after Live was changed", x)
	if !slices.Equal(again, []api.Handle{at(0, 3), at(3, api.MaxGen)}) {
		t.Error("two answers of Live share memory")
	}
	changeAll(t, x)
	if !slices.Equal(again, []api.Handle{at(0, 3), at(3, api.MaxGen)}) {
		t.Errorf("a later call changed what Live told: %v", again)
	}
}

// changeAll changes what mixed made by every call that changes anything, at every entry that can be.
func changeAll(t *testing.T, x *desc.Table) {
	t.Helper()
	wantErrno(t, "Set", x.Set(at(0, 3), 1, 1), api.OK)
	wantErrno(t, "Close", x.Close(at(3, api.MaxGen)), api.OK)
	wantErrno(t, "Age", x.Age(5, 77), api.OK)
	wantOpen(t, x, 2, 2, at(1, 3))
	wantOpen(t, x, 2, 2, at(4, api.MaxGen))
	wantErrno(t, "Close", x.Close(at(4, api.MaxGen)), api.OK)
	wantErrno(t, "Close", x.Close(at(0, 3)), api.OK)
}

// 3.2: a clone stands where the table does, and goes its own way from there, as the table does.
func TestClone(t *testing.T) {
	x := mixed(t)
	c := x.Clone()
	wantMixed(t, "a clone", c)
	wantRefused(t, c, at(2, api.MaxGen), api.ErrStale)
	wantErrno(t, "Age of a spent one", c.Age(2, api.MaxGen), api.ErrNone)
	changeAll(t, c)
	wantMixed(t, "after the clone was changed", x)
	c = x.Clone()
	changeAll(t, x)
	wantMixed(t, "after the first one was changed", c)
	wantTold(t, "the first one", x, "1 [{1 3}] {1 3} 2 2 0 next {0 4} next {5 77} then error 4")
}

// 3.2: a clone has as many entries as the table.
func TestCloneEntries(t *testing.T) {
	for _, entries := range []int{0, 1, 64, api.MaxItems} {
		c := made(t, entries).Clone()
		for index := range entries {
			wantOpen(t, c, 1, 1, at(index, 1))
		}
		wantOpenRefused(t, c, api.ErrFull)
	}
}

// Rules 2, P1: a table that no call made: ErrNil before all else, zero values, and nothing is done.
func TestUnmade(t *testing.T) {
	var none *desc.Table
	numbers := []int{math.MinInt, -1, 0, 1, 2, api.MaxItems, api.MaxGen, api.MaxGen + 1, math.MaxInt}
	for _, x := range []*desc.Table{none, {}, new(desc.Table)} {
		for range 2 {
			wantOpenRefused(t, x, api.ErrNil)
			for _, index := range numbers {
				for _, gen := range numbers {
					wantRefused(t, x, at(index, gen), api.ErrNil)
					wantErrno(t, "Age", x.Age(index, gen), api.ErrNil)
				}
			}
			wantLive(t, x)
			if c := x.Clone(); c != nil {
				t.Errorf("Clone of a table that no call made: %v", c)
			}
		}
	}
}
