package sched_test

import (
	"math/rand"
	"testing"

	"sallyport/api"
)

// ownTicks is the model of a tenant's own slots: all ticks below an end, run one by one.
func ownTicks(table []api.Slot, tenant, end int) []int {
	var ticks []int
	for tick := range end {
		if table[tick%len(table)].Tenant == tenant {
			ticks = append(ticks, tick)
		}
	}
	return ticks
}

// drawn is a table of drawn slots, some of which is a tenant's.
func drawn(r *rand.Rand) []api.Slot {
	table := make([]api.Slot, 1+r.Intn(api.MaxSlots))
	tenants := 1 + r.Intn(api.MaxTenants)
	for place := range table {
		table[place] = api.Slot{Tenant: r.Intn(tenants+1) - 1, Budget: 1 + r.Intn(api.MaxBudget)}
	}
	table[r.Intn(len(table))].Tenant = r.Intn(tenants)
	return table
}

// 5.1, 5.2, 5.4: what the calls tell of a table is what comes of going through the ticks one by one.
func TestModel(t *testing.T) {
	r := rand.New(rand.NewSource(5))
	for range 200 {
		table := drawn(r)
		wantCheck(t, "a drawn table", table, api.OK)
		end := 3 * len(table)
		for tick := range end {
			wantRun(t, table, tick, table[tick%len(table)])
			wantBoundary(t, table, tick, tick%len(table) == 0)
			wantFrame(t, table, tick, tick/len(table))
		}
		for tenant := range api.MaxTenants {
			holdTenant(t, table, tenant, end)
		}
	}
}

// holdTenant holds Own, When and Gap of a tenant against the model.
func holdTenant(t *testing.T, table []api.Slot, tenant, end int) {
	t.Helper()
	ticks := ownTicks(table, tenant, end)
	over := 0
	for tick := range end {
		wantOwn(t, table, tenant, tick, over)
		if table[tick%len(table)].Tenant == tenant {
			over++
		}
	}
	if len(ticks) == 0 {
		wantWhenRefused(t, table, tenant, 0, api.ErrArg)
		wantGapRefused(t, table, tenant, api.ErrArg)
		return
	}
	gap := 0
	for k, tick := range ticks {
		wantWhen(t, table, tenant, k, tick)
		if k > 0 {
			gap = max(gap, tick-ticks[k-1])
		}
	}
	wantGap(t, table, tenant, gap)
}
