package sched

import (
	"sallyport/api"
)

func isSlot(slot api.Slot) bool {
	if slot.Tenant < -1 || slot.Tenant >= api.MaxTenants {
		return false
	}
	return slot.Budget >= 1 && slot.Budget <= api.MaxBudget
}

func checkTick(table []api.Slot, tick int) api.Errno {
	if e := Check(table); e != api.OK {
		return e
	}
	if tick < 0 || tick > api.MaxTick {
		return api.ErrArg
	}
	return api.OK
}

// checkOwner asks for a tenant that is not below 0 by itself: nobody's slots, at -1, are in the table and yet no tenant's.
func checkOwner(table []api.Slot, tenant int) api.Errno {
	if e := Check(table); e != api.OK {
		return e
	}
	if tenant < 0 || ownInFrame(table, tenant) == 0 {
		return api.ErrArg
	}
	return api.OK
}

// goRound hands the ticks of a tenant's own slots to visit, in order, until it tells false. Two frames are enough: the second one shows the way round the table's end, and whatever comes after is the same again.
func goRound(table []api.Slot, tenant int, visit func(tick int) bool) {
rounds:
	for frame := range 2 {
		for place, slot := range table {
			if slot.Tenant != tenant {
				continue
			}
			if !visit(frame*len(table) + place) {
				break rounds
			}
		}
	}
}

// ownAhead counts the own slots ahead of a tick of the first two frames.
func ownAhead(table []api.Slot, tenant, end int) int {
	count := 0
	goRound(table, tenant, func(tick int) bool {
		if tick >= end {
			return false
		}
		count++
		return true
	})
	return count
}

func ownInFrame(table []api.Slot, tenant int) int {
	return ownAhead(table, tenant, len(table))
}

// ownTick tells the tick of the k-th own slot of a tenant that has one, for a k of the first frame.
func ownTick(table []api.Slot, tenant, k int) int {
	found := 0
	goRound(table, tenant, func(tick int) bool {
		found = tick
		k--
		return k >= 0
	})
	return found
}

// ownGap tells the most ticks between two own slots that follow one another; one that is alone is followed by itself, a frame later.
func ownGap(table []api.Slot, tenant int) int {
	most, last := 0, -1
	goRound(table, tenant, func(tick int) bool {
		if last >= 0 {
			most = max(most, tick-last)
		}
		last = tick
		return true
	})
	return most
}
