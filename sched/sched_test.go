package sched_test

import (
	"math"
	"slices"
	"testing"

	"sallyport/api"
	"sallyport/sched"
)

// mixed is the table of the chapter's example.
func mixed() []api.Slot {
	return []api.Slot{{Tenant: 0, Budget: 5}, {Tenant: 1, Budget: 2}, {Tenant: 0, Budget: 1}}
}

// tableOf is a table of the tenants' slots, each with a budget that tells its place.
func tableOf(tenants ...int) []api.Slot {
	var table []api.Slot
	for place, tenant := range tenants {
		table = append(table, api.Slot{Tenant: tenant, Budget: place + 1})
	}
	return table
}

// long is a table of so many slots, all of one tenant.
func long(slots, tenant int) []api.Slot {
	return tableOf(slices.Repeat([]int{tenant}, slots)...)
}

func wantCheck(t *testing.T, what string, table []api.Slot, want api.Errno) {
	t.Helper()
	if got := sched.Check(table); got != want {
		t.Errorf("Check of %s: error %d, want %d", what, got, want)
	}
}

func wantRun(t *testing.T, table []api.Slot, tick int, want api.Slot) {
	t.Helper()
	if got, e := sched.Run(table, tick); got != want || e != api.OK {
		t.Errorf("Run(%v, %d): %v, error %d, want %v", table, tick, got, e, want)
	}
}

func wantBoundary(t *testing.T, table []api.Slot, tick int, want bool) {
	t.Helper()
	if got, e := sched.Boundary(table, tick); got != want || e != api.OK {
		t.Errorf("Boundary(%v, %d): %v, error %d, want %v", table, tick, got, e, want)
	}
}

// wantNumber holds an answer of Frame, Own, When or Gap that is no error against a number.
func wantNumber(t *testing.T, what string, got int, e api.Errno, want int) {
	t.Helper()
	if got != want || e != api.OK {
		t.Errorf("%s: %d, error %d, want %d", what, got, e, want)
	}
}

func wantFrame(t *testing.T, table []api.Slot, tick, want int) {
	t.Helper()
	if got, e := sched.Frame(table, tick); got != want || e != api.OK {
		t.Errorf("Frame(%v, %d): %d, error %d, want %d", table, tick, got, e, want)
	}
}

func wantOwn(t *testing.T, table []api.Slot, tenant, tick, want int) {
	t.Helper()
	if got, e := sched.Own(table, tenant, tick); got != want || e != api.OK {
		t.Errorf("Own(%v, %d, %d): %d, error %d, want %d", table, tenant, tick, got, e, want)
	}
}

func wantWhen(t *testing.T, table []api.Slot, tenant, k, want int) {
	t.Helper()
	if got, e := sched.When(table, tenant, k); got != want || e != api.OK {
		t.Errorf("When(%v, %d, %d): %d, error %d, want %d", table, tenant, k, got, e, want)
	}
}

func wantGap(t *testing.T, table []api.Slot, tenant, want int) {
	t.Helper()
	if got, e := sched.Gap(table, tenant); got != want || e != api.OK {
		t.Errorf("Gap(%v, %d): %d, error %d, want %d", table, tenant, got, e, want)
	}
}

func wantTickRefused(t *testing.T, table []api.Slot, tick int, want api.Errno) {
	t.Helper()
	if got, e := sched.Run(table, tick); got != (api.Slot{}) || e != want {
		t.Errorf("Run(%v, %d): %v, error %d, want {0 0}, error %d", table, tick, got, e, want)
	}
	if got, e := sched.Boundary(table, tick); got || e != want {
		t.Errorf("Boundary(%v, %d): %v, error %d, want false, error %d", table, tick, got, e, want)
	}
	if got, e := sched.Frame(table, tick); got != 0 || e != want {
		t.Errorf("Frame(%v, %d): %d, error %d, want 0, error %d", table, tick, got, e, want)
	}
}

func wantOwnRefused(t *testing.T, table []api.Slot, tenant, tick int, want api.Errno) {
	t.Helper()
	if got, e := sched.Own(table, tenant, tick); got != 0 || e != want {
		t.Errorf("Own(%v, %d, %d): %d, error %d, want 0, error %d", table, tenant, tick, got, e, want)
	}
}

func wantWhenRefused(t *testing.T, table []api.Slot, tenant, k int, want api.Errno) {
	t.Helper()
	if got, e := sched.When(table, tenant, k); got != 0 || e != want {
		t.Errorf("When(%v, %d, %d): %d, error %d, want 0, error %d", table, tenant, k, got, e, want)
	}
}

func wantGapRefused(t *testing.T, table []api.Slot, tenant int, want api.Errno) {
	t.Helper()
	if got, e := sched.Gap(table, tenant); got != 0 || e != want {
		t.Errorf("Gap(%v, %d): %d, error %d, want 0, error %d", table, tenant, got, e, want)
	}
}

// 5.1, 5.2: the chapter's example, and ErrTable as the number that the chapter gives it.
func TestExample(t *testing.T) {
	if api.ErrTable != 50 {
		t.Errorf("ErrTable is %d", api.ErrTable)
	}
	wantCheck(t, "the example", mixed(), api.OK)
	wantRun(t, mixed(), 5, api.Slot{Tenant: 0, Budget: 1})
	wantOwn(t, mixed(), 0, 5, 3)
	wantWhen(t, mixed(), 0, 3, 5)
	wantGap(t, mixed(), 0, 2)
	wantGap(t, mixed(), 1, 3)
}

// 5.1: a table has 1 to MaxSlots slots.
func TestCheckLength(t *testing.T) {
	wantCheck(t, "nil", nil, api.ErrTable)
	wantCheck(t, "no slots", []api.Slot{}, api.ErrTable)
	wantCheck(t, "one slot", long(1, 0), api.OK)
	wantCheck(t, "two slots", long(2, 0), api.OK)
	wantCheck(t, "MaxSlots - 1 slots", long(api.MaxSlots-1, 0), api.OK)
	wantCheck(t, "MaxSlots slots", long(api.MaxSlots, 0), api.OK)
	wantCheck(t, "MaxSlots + 1 slots", long(api.MaxSlots+1, 0), api.ErrTable)
	wantCheck(t, "many slots", long(api.MaxItems, 0), api.ErrTable)
}

// 5.1: Tenant is from -1 to MaxTenants - 1 and Budget from 1 to MaxBudget, wherever in the table the slot stands and whosever it is.
func TestCheckSlots(t *testing.T) {
	for _, c := range []struct {
		slot api.Slot
		want api.Errno
	}{
		{api.Slot{Tenant: math.MinInt, Budget: 1}, api.ErrTable},
		{api.Slot{Tenant: -2, Budget: 1}, api.ErrTable},
		{api.Slot{Tenant: -1, Budget: 1}, api.OK},
		{api.Slot{Tenant: 0, Budget: 1}, api.OK},
		{api.Slot{Tenant: api.MaxTenants - 1, Budget: 1}, api.OK},
		{api.Slot{Tenant: api.MaxTenants, Budget: 1}, api.ErrTable},
		{api.Slot{Tenant: math.MaxInt, Budget: 1}, api.ErrTable},
		{api.Slot{Tenant: 0, Budget: math.MinInt}, api.ErrTable},
		{api.Slot{Tenant: 0, Budget: -1}, api.ErrTable},
		{api.Slot{Tenant: 0, Budget: 0}, api.ErrTable},
		{api.Slot{Tenant: 0, Budget: 2}, api.OK},
		{api.Slot{Tenant: 0, Budget: api.MaxBudget}, api.OK},
		{api.Slot{Tenant: 0, Budget: api.MaxBudget + 1}, api.ErrTable},
		{api.Slot{Tenant: 0, Budget: math.MaxInt}, api.ErrTable},
		{api.Slot{Tenant: -1, Budget: 0}, api.ErrTable},
		{api.Slot{Tenant: -1, Budget: api.MaxBudget}, api.OK},
		{api.Slot{Tenant: -1, Budget: api.MaxBudget + 1}, api.ErrTable},
	} {
		for place := range 3 {
			table := tableOf(0, 1, 0)
			table[place] = c.slot
			if got := sched.Check(table); got != c.want {
				t.Errorf("Check(%v): error %d, want %d", table, got, c.want)
			}
		}
	}
	wantCheck(t, "the last tenant alone", tableOf(api.MaxTenants-1), api.OK)
}

// 5.1: some slot is a tenant's, be it the first one or the last.
func TestCheckNobody(t *testing.T) {
	wantCheck(t, "one slot of nobody's", tableOf(-1), api.ErrTable)
	wantCheck(t, "MaxSlots slots of nobody's", long(api.MaxSlots, -1), api.ErrTable)
	for place := range 4 {
		table := long(4, -1)
		table[place].Tenant = 0
		if got := sched.Check(table); got != api.OK {
			t.Errorf("Check(%v): error %d", table, got)
		}
	}
}

// 5.1: a tick runs the slot of its number modulo the table's; a boundary runs the first slot; frames that are over are counted.
func TestTicks(t *testing.T) {
	table := tableOf(0, -1, 3)
	for _, c := range []struct{ tick, place, frame int }{
		{0, 0, 0}, {1, 1, 0}, {2, 2, 0},
		{3, 0, 1}, {4, 1, 1}, {5, 2, 1},
		{6, 0, 2},
		{300, 0, 100}, {301, 1, 100},
		{api.MaxTick - 1, 0, 366503875925}, // 1 << 40 is 3 * 366503875925 + 1
		{api.MaxTick, 1, 366503875925},
	} {
		wantRun(t, table, c.tick, table[c.place])
		wantBoundary(t, table, c.tick, c.place == 0)
		wantFrame(t, table, c.tick, c.frame)
	}
}

// 5.1: in a table of one slot each tick is a boundary and a frame; one of MaxSlots slots ends at its last one.
func TestTicksShortAndLong(t *testing.T) {
	one, most := tableOf(2), long(api.MaxSlots, 1)
	for _, tick := range []int{0, 1, 2, api.MaxTick - 1, api.MaxTick} {
		wantRun(t, one, tick, one[0])
		wantBoundary(t, one, tick, true)
		wantFrame(t, one, tick, tick)
	}
	wantRun(t, most, api.MaxSlots-1, most[api.MaxSlots-1])
	wantBoundary(t, most, api.MaxSlots-1, false)
	wantFrame(t, most, api.MaxSlots-1, 0)
	wantRun(t, most, api.MaxSlots, most[0])
	wantBoundary(t, most, api.MaxSlots, true)
	wantFrame(t, most, api.MaxSlots, 1)
	wantRun(t, most, api.MaxTick, most[0])
	wantBoundary(t, most, api.MaxTick, true)
	wantFrame(t, most, api.MaxTick, api.MaxTick/api.MaxSlots)
}

// 5.1, 5.2: ErrArg of a tick that is not from 0 to MaxTick, and nothing but zero values with it.
func TestTickRefused(t *testing.T) {
	for _, table := range [][]api.Slot{mixed(), tableOf(0), long(api.MaxSlots, 0)} {
		for _, tick := range []int{math.MinInt, -4, -3, -1, api.MaxTick + 1, api.MaxTick + 3, math.MaxInt} {
			wantTickRefused(t, table, tick, api.ErrArg)
			wantOwnRefused(t, table, 0, tick, api.ErrArg)
			wantOwnRefused(t, table, 7, tick, api.ErrArg)
			wantOwnRefused(t, table, -1, tick, api.ErrArg)
		}
	}
}

// 5.2: own slots ahead of a tick: that of the tick itself is not over.
func TestOwn(t *testing.T) {
	table := tableOf(1, -1, 0, 1)
	for tick, want := range []int{0, 1, 1, 1, 2, 3, 3, 3, 4} {
		wantOwn(t, table, 1, tick, want)
	}
	for tick, want := range []int{0, 0, 0, 1, 1, 1, 1, 2, 2} {
		wantOwn(t, table, 0, tick, want)
	}
	wantOwn(t, table, 1, api.MaxTick, api.MaxTick/2)
	wantOwn(t, table, 0, api.MaxTick, api.MaxTick/4)
	wantOwn(t, table, 0, api.MaxTick-1, api.MaxTick/4)
	wantOwn(t, table, 0, api.MaxTick-2, api.MaxTick/4-1)
	wantOwn(t, tableOf(7), 7, api.MaxTick, api.MaxTick)
	wantOwn(t, long(api.MaxSlots, 7), 7, api.MaxTick, api.MaxTick)
	wantOwn(t, long(api.MaxSlots, 7), 7, api.MaxTick-1, api.MaxTick-1)
}

// 5.2: Own of a tenant without a slot is 0, and OK; one below 0 or not below MaxTenants is refused, nobody's slots or not.
func TestOwnTenants(t *testing.T) {
	for _, table := range [][]api.Slot{mixed(), tableOf(0, -1, -1)} {
		for _, tick := range []int{0, 1, 2, 3, api.MaxTick} {
			for tenant := 2; tenant < api.MaxTenants; tenant++ {
				wantOwn(t, table, tenant, tick, 0)
			}
			for _, tenant := range []int{math.MinInt, -2, -1, api.MaxTenants, api.MaxTenants + 1, math.MaxInt} {
				wantOwnRefused(t, table, tenant, tick, api.ErrArg)
			}
		}
	}
}

// 5.2: the tick of a tenant's k-th own slot.
func TestWhen(t *testing.T) {
	table := tableOf(-1, 1, 1, 0)
	for k, want := range []int{1, 2, 5, 6, 9, 10} {
		wantWhen(t, table, 1, k, want)
	}
	for k, want := range []int{3, 7, 11} {
		wantWhen(t, table, 0, k, want)
	}
}

// 5.2: the last k is that whose tick is not above MaxTick; the next one is refused, as is any greater one, however great.
func TestWhenLast(t *testing.T) {
	most := long(api.MaxSlots, 0)
	sparse := long(api.MaxSlots, 0)
	sparse[0].Tenant, sparse[1].Tenant = 1, 2
	for _, c := range []struct {
		table           []api.Slot
		tenant, k, tick int
	}{
		{tableOf(0), 0, api.MaxTick, api.MaxTick},
		{most, 0, api.MaxTick, api.MaxTick},
		{sparse, 1, api.MaxTick / api.MaxSlots, api.MaxTick},           // MaxTick is a boundary, and runs its slot
		{sparse, 2, api.MaxTick/api.MaxSlots - 1, api.MaxTick - 63},    // the next one would be one tick too late
		{mixed(), 1, 366503875925, api.MaxTick},                        // MaxTick is 1 modulo 3
		{mixed(), 0, 2 * 366503875925, api.MaxTick - 1},                // the next one would be at MaxTick + 1
		{tableOf(0, 1, 1, 1), 1, api.MaxTick/4*3 - 1, api.MaxTick - 1}, // MaxTick is a boundary, which is 0's
	} {
		wantWhen(t, c.table, c.tenant, c.k, c.tick)
		for _, k := range []int{c.k + 1, c.k + 2, api.MaxTick + 1, 1 << 57, 1 << 58, 1 << 60, 1 << 62, math.MaxInt - 1, math.MaxInt} {
			wantWhenRefused(t, c.table, c.tenant, k, api.ErrArg)
		}
	}
}

// 5.2: ErrArg of a k below 0, and of a tenant that is below 0 or has no slot, where nobody's slots are none.
func TestWhenRefused(t *testing.T) {
	for _, k := range []int{-1, -2, -3, math.MinInt} {
		wantWhenRefused(t, mixed(), 0, k, api.ErrArg)
		wantWhenRefused(t, mixed(), 1, k, api.ErrArg)
		wantWhenRefused(t, mixed(), 2, k, api.ErrArg)
		wantWhenRefused(t, mixed(), -1, k, api.ErrArg)
	}
	for _, tenant := range []int{math.MinInt, -2, -1, 1, 7, api.MaxTenants, math.MaxInt} {
		for _, k := range []int{0, 1, api.MaxTick, api.MaxTick + 1} {
			wantWhenRefused(t, tableOf(0, -1), tenant, k, api.ErrArg)
		}
	}
}

// 5.2: the most ticks from one own slot to the next one, also round the table's end; with one slot alone it is the whole table.
func TestGap(t *testing.T) {
	for _, c := range []struct {
		tenants []int
		want    int
	}{
		{[]int{0}, 1},
		{[]int{0, 0}, 1},
		{[]int{0, 0, 0}, 1},
		{[]int{0, -1}, 2},
		{[]int{-1, 0}, 2},
		{[]int{0, 1, 2, 3, 4}, 5},
		{[]int{1, 2, 0, 3, 4}, 5},
		{[]int{1, 2, 3, 4, 0}, 5},
		{[]int{0, 0, 1, 1, 1}, 4}, // side by side
		{[]int{1, 0, 0, 1, 1}, 4},
		{[]int{0, 1, 1, 1, 0}, 4}, // side by side round the table's end
		{[]int{0, 0, 1, 1, 0}, 3},
		{[]int{0, 1, 0, 1, 1, 1, 0, 1}, 4}, // in the midst
		{[]int{1, 1, 1, 0, 1, 0, 1, 1}, 6}, // round the table's end
		{[]int{0, 1, 1, 1, 0, 1, 0, 1}, 4}, // first
		{[]int{0, 1, 0, 1, 0, 1, 1, 1}, 4}, // last
	} {
		wantGap(t, tableOf(c.tenants...), 0, c.want)
	}
	for place := range api.MaxSlots {
		table := long(api.MaxSlots, -1)
		table[place].Tenant = 7
		wantGap(t, table, 7, api.MaxSlots)
	}
	wantGap(t, long(api.MaxSlots, 7), 7, 1)
}

// 5.2: ErrArg of a tenant that is below 0 or has no slot, where nobody's slots are none.
func TestGapRefused(t *testing.T) {
	for _, tenant := range []int{math.MinInt, -2, -1, 1, 7, api.MaxTenants, math.MaxInt} {
		wantGapRefused(t, tableOf(0, -1), tenant, api.ErrArg)
	}
}

// notTables are tables that are none, one for each reason.
func notTables() [][]api.Slot {
	return [][]api.Slot{
		nil,
		{},
		long(api.MaxSlots+1, 0),
		tableOf(-1),
		long(api.MaxSlots, -1),
		tableOf(0, -2),
		tableOf(0, api.MaxTenants),
		{{Tenant: 0, Budget: 1}, {Tenant: 0, Budget: 0}},
		{{Tenant: 0, Budget: 1}, {Tenant: 0, Budget: api.MaxBudget + 1}},
	}
}

// 5.1, 5.2, P1: of a table that is none ErrTable comes first, whatever else is right or wrong, with zero values.
func TestTableFirst(t *testing.T) {
	for _, table := range notTables() {
		wantCheck(t, "a table that is none", table, api.ErrTable)
		for _, number := range []int{math.MinInt, -1, 0, 1, 64, api.MaxTick, api.MaxTick + 1, math.MaxInt} {
			wantTickRefused(t, table, number, api.ErrTable)
			for _, tenant := range []int{math.MinInt, -2, -1, 0, 5, api.MaxTenants, math.MaxInt} {
				wantOwnRefused(t, table, tenant, number, api.ErrTable)
				wantWhenRefused(t, table, tenant, number, api.ErrTable)
				wantGapRefused(t, table, tenant, api.ErrTable)
			}
		}
	}
}

// Rule 4, P2: no call, right or refused, changes the table that it is handed, nor what lies behind its end, and none keeps it.
func TestTableStays(t *testing.T) {
	tables := append(notTables(), mixed(), tableOf(3, -1, 0, 0), long(api.MaxSlots, 2))
	for _, table := range tables {
		behind := append(slices.Clone(table), api.Slot{Tenant: 77, Budget: 78})
		handed := behind[:len(table)]
		before := slices.Clone(behind)
		sched.Check(handed)
		for _, number := range []int{-1, 0, 1, 5, api.MaxTick, api.MaxTick + 1} {
			sched.Run(handed, number)
			sched.Boundary(handed, number)
			sched.Frame(handed, number)
			for _, tenant := range []int{-1, 0, 2, 3, api.MaxTenants} {
				sched.Own(handed, tenant, number)
				sched.When(handed, tenant, number)
				sched.Gap(handed, tenant)
			}
		}
		if !slices.Equal(behind, before) {
			t.Errorf("the table %v became %v", before, behind)
		}
	}
	table := mixed()
	wantOwn(t, table, 0, 5, 3)
	table[0].Tenant = 1
	wantOwn(t, table, 0, 5, 1)
	wantWhen(t, table, 0, 1, 5)
	wantGap(t, table, 0, 3)
}

// 5.4: Own of When(k) is k, that tick runs an own slot, and the ticks between two own slots run none.
func TestWhenAndOwn(t *testing.T) {
	for _, table := range [][]api.Slot{mixed(), tableOf(0), tableOf(-1, 0, 0, 1), tableOf(0, 1, -1, 0), long(api.MaxSlots, 0)} {
		for _, first := range []int{0, 1 << 20, 1 << 33} {
			next, _ := sched.When(table, 0, first)
			for k := first; k < first+2*len(table)+2; k++ {
				tick, e := sched.When(table, 0, k)
				wantNumber(t, "When(k)", tick, e, next)
				own, e := sched.Own(table, 0, tick)
				wantNumber(t, "Own of When(k)", own, e, k)
				if slot, _ := sched.Run(table, tick); slot.Tenant != 0 {
					t.Errorf("%v: tick %d of own slot %d runs %v", table, tick, k, slot)
				}
				for next = tick + 1; !runs(table, 0, next); next++ {
				}
			}
		}
	}
}

// runs tells whether the tick runs a slot of the tenant's.
func runs(table []api.Slot, tenant, tick int) bool {
	slot, e := sched.Run(table, tick)
	return e != api.OK || slot.Tenant == tenant
}

// 5.5: any Gap ticks that follow one another have an own slot, and some that are one fewer have none.
func TestRecurs(t *testing.T) {
	for _, table := range [][]api.Slot{mixed(), tableOf(0), tableOf(0, 0, 1, 1, 1), tableOf(1, 0, -1, -1, 0, 1), long(api.MaxSlots, 1)} {
		for tenant := range 2 {
			gap, e := sched.Gap(table, tenant)
			if e != api.OK {
				continue
			}
			for _, first := range []int{0, api.MaxTick - 4*len(table)} {
				fewer := false
				for from := first; from < first+2*len(table); from++ {
					if !anyOwn(table, tenant, from, gap) {
						t.Errorf("%v: no slot of %d's in %d ticks from %d on", table, tenant, gap, from)
					}
					fewer = fewer || !anyOwn(table, tenant, from, gap-1)
				}
				if !fewer {
					t.Errorf("%v: a slot of %d's in any %d ticks, yet the gap is %d", table, tenant, gap-1, gap)
				}
			}
		}
	}
}

// anyOwn tells whether one of so many ticks runs a slot of the tenant's.
func anyOwn(table []api.Slot, tenant, from, ticks int) bool {
	for tick := from; tick < from+ticks; tick++ {
		if runs(table, tenant, tick) {
			return true
		}
	}
	return false
}
