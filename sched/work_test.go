package sched_test

import (
	"math"
	"testing"

	"sallyport/api"
	"sallyport/sched"
)

// wantWork runs a step that tells true for so many calls (below 0: always), and holds what Work tells and how often it called.
func wantWork(t *testing.T, budget, trues, want, wantCalls int) {
	t.Helper()
	calls := 0
	got := sched.Work(budget, func() bool {
		calls++
		return trues < 0 || calls <= trues
	})
	if got != want || calls != wantCalls {
		t.Errorf("Work(%d) of a step that tells true %d times: %d after %d calls, want %d after %d", budget, trues, got, calls, want, wantCalls)
	}
}

// 5.3: a budget below 1 calls nothing.
func TestWorkWithoutBudget(t *testing.T) {
	for _, budget := range []int{math.MinInt, -2, -1, 0} {
		wantWork(t, budget, -1, 0, 0)
		wantWork(t, budget, 0, 0, 0)
	}
}

// 5.3: without step the answer is 0, whatever the budget.
func TestWorkWithoutStep(t *testing.T) {
	for _, budget := range []int{math.MinInt, -1, 0, 1, 5, api.MaxBudget, math.MaxInt} {
		if got := sched.Work(budget, nil); got != 0 {
			t.Errorf("Work(%d) without step: %d", budget, got)
		}
	}
}

// 5.3: a budget of 1 calls once, whatever the step tells.
func TestWorkOnce(t *testing.T) {
	wantWork(t, 1, -1, 1, 1)
	wantWork(t, 1, 1, 1, 1)
	wantWork(t, 1, 0, 0, 1)
}

// 5.3: a step that tells false is a call, too, and the last one; calls that told true are told.
func TestWorkMore(t *testing.T) {
	wantWork(t, 5, 0, 0, 1)
	wantWork(t, 5, 1, 1, 2)
	wantWork(t, 5, 3, 3, 4)
	wantWork(t, 5, 4, 4, 5) // false at the last call that the budget allows
	wantWork(t, 5, 5, 5, 5) // it would be false one call later
	wantWork(t, 5, -1, 5, 5)
	wantWork(t, math.MaxInt, 9, 9, 10)
}

// 5.6: a step that never tells false is cut off at the budget; one above MaxBudget is a budget here.
func TestWorkCutOff(t *testing.T) {
	for _, budget := range []int{2, 3, 100, api.MaxBudget - 1, api.MaxBudget, api.MaxBudget + 1, 1 << 16} {
		wantWork(t, budget, -1, budget, budget)
	}
	for budget := range 8 {
		for trues := range 10 {
			wantWork(t, budget, trues, min(budget, trues), min(budget, trues+1))
		}
	}
}

// 5.3: after the step told false it is not called again, though it would tell true again.
func TestWorkStops(t *testing.T) {
	calls := 0
	got := sched.Work(9, func() bool {
		calls++
		return calls != 3
	})
	if got != 2 || calls != 3 {
		t.Errorf("Work: %d after %d calls, want 2 after 3", got, calls)
	}
}

// P1: a step that panics does not tell true, and is the last one.
func TestWorkPanics(t *testing.T) {
	for _, what := range []any{"a text", nil, api.ErrArg} {
		calls := 0
		got := sched.Work(9, func() bool {
			calls++
			if calls == 4 {
				panic(what)
			}
			return true
		})
		if got != 3 || calls != 4 {
			t.Errorf("Work of a step that panics with %v: %d after %d calls, want 3 after 4", what, got, calls)
		}
	}
}

// 5.3, P1: a step may run a Work of its own; each has its budget for itself.
func TestWorkWithin(t *testing.T) {
	calls := 0
	got := sched.Work(3, func() bool {
		return sched.Work(4, func() bool { calls++; return true }) == 4
	})
	if got != 3 || calls != 12 {
		t.Errorf("Work within Work: %d after %d calls, want 3 after 12", got, calls)
	}
}
