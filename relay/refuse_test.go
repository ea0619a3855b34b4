package relay_test

import (
	"fmt"
	"math"
	"testing"

	"sallyport/api"
	"sallyport/port"
)

// calls is each of the three, those that have a most with some of the right ones.
func calls() map[string]call {
	return map[string]call{
		"Move of 1":   moving(1),
		"Move of all": moving(math.MaxInt),
		"Step of 1":   stepping(1),
		"Step of all": stepping(math.MaxInt),
		"Stop":        stopping,
	}
}

// manyPorts is ports with endpoints of both sorts, of one of them, and of none, which have something that could be moved, ended and closed.
func manyPorts(t *testing.T) map[string]*port.Port {
	t.Helper()
	one, two := "open =ab +5 <", "open =uv +5"
	return map[string]*port.Port{
		"of both":        laid(t, 9, []string{one, two}, []string{two, one}),
		"of one of each": laid(t, 9, []string{one}, []string{two}),
		"of clients":     laid(t, 9, []string{one, two, "new =x +1"}, nil),
		"of servers":     laid(t, 9, nil, []string{one, two, "dialled"}),
		"of a client":    laid(t, 9, []string{one}, nil),
		"of a server":    laid(t, 9, nil, []string{one}),
		"of none":        laid(t, 9, nil, nil),
	}
}

// 19.1 to 19.3: an endpoint that there is not (the box is none of these) is ErrArg, whichever of both it is, and so are two that are the same; nothing is changed then.
func TestNoSuchEnd(t *testing.T) {
	for name, p := range manyPorts(t) {
		n := count(p)
		ends := []int{math.MinInt, -api.MaxEnds, -2, -1, 0, 1, n - 1, n, n + 1, 2 * api.MaxEnds, math.MaxInt}
		for _, a := range ends {
			for _, b := range ends {
				if a >= 0 && a < n && b >= 0 && b < n && a != b {
					continue
				}
				for what, do := range calls() {
					wantKept(t, fmt.Sprint(what, " at ", a, " and ", b, " of a port ", name), p, answer{err: api.ErrArg}, func() answer { return do(p, a, b) })
				}
			}
		}
	}
}

// 19.1 to 19.3: all endpoints that there are are taken, also the last ones of the most that may be.
func TestEachEnd(t *testing.T) {
	p := made(t, api.MaxEnds, api.MaxEnds, 1)
	for a := range 2 * api.MaxEnds {
		for _, b := range []int{0, 1, api.MaxEnds - 1, api.MaxEnds, 2*api.MaxEnds - 1} {
			if a == b {
				continue
			}
			for what, do := range calls() {
				if got := do(p, a, b); got.err != api.OK {
					t.Errorf("%s at %d and %d: %v", what, a, b, got)
				}
				if got := do(p, b, a); got.err != api.OK {
					t.Errorf("%s at %d and %d: %v", what, b, a, got)
				}
			}
		}
	}
}

// 19.1, 19.2: a most below 1 is ErrArg, also beside other things that are wrong; nothing is changed then, though one of both is gone.
func TestNoMost(t *testing.T) {
	ports := manyPorts(t)
	ports["with one that is gone"] = laid(t, 9, []string{"gone", "open =ab +5"}, []string{"open =uv +5"})
	for name, p := range ports {
		n := count(p)
		for _, most := range []int{0, -1, -2, math.MinInt} {
			for _, ends := range [][2]int{{0, 1}, {1, 0}, {0, n - 1}, {0, 0}, {-1, 0}, {0, n}, {n, n}} {
				a, b := ends[0], ends[1]
				for what, do := range map[string]call{"Move": moving(most), "Step": stepping(most)} {
					wantKept(t, fmt.Sprint(what, " of ", most, " at ", a, " and ", b, " of a port ", name), p, answer{err: api.ErrArg}, func() answer { return do(p, a, b) })
				}
			}
		}
	}
}

// Rule 2: of a port that no call made each call is ErrNil, ahead of all else that is wrong, and nothing is done.
func TestUnmade(t *testing.T) {
	for name, p := range map[string]*port.Port{"nil": nil, "a plain one": {}, "a clone of none": (*port.Port)(nil).Clone(), "a clone of a plain one": (&port.Port{}).Clone()} {
		all := calls()
		for _, most := range []int{0, -1, math.MinInt} {
			all[fmt.Sprint("Move of ", most)] = moving(most)
			all[fmt.Sprint("Step of ", most)] = stepping(most)
		}
		for what, do := range all {
			for _, ends := range [][2]int{{0, 1}, {1, 0}, {0, 0}, {-1, 0}, {0, -1}, {math.MaxInt, math.MinInt}} {
				if got := do(p, ends[0], ends[1]); got != (answer{err: api.ErrNil}) {
					t.Errorf("%s at %v of a port that is %s: %v", what, ends, name, got)
				}
			}
		}
		if p != nil && p.Outs() != nil {
			t.Errorf("%s has outputs", name)
		}
	}
}

// P1: no call panics or goes on for ever, whatever it is handed.
func TestAnyArguments(t *testing.T) {
	numbers := []int{math.MinInt, -1, 0, 1, 2, 3, 4, api.MaxEnds, api.MaxBytes, api.MaxTick, math.MaxInt}
	ports := manyPorts(t)
	ports["nil"], ports["plain"] = nil, &port.Port{}
	for name, p := range ports {
		for _, a := range numbers {
			for _, b := range numbers {
				for _, most := range numbers {
					for what, do := range map[string]call{"Move": moving(most), "Step": stepping(most), "Stop": stopping} {
						got := do(p.Clone(), a, b)
						if got.err != api.OK && (got.n != 0 || got.over) {
							t.Errorf("%s of %d at %d and %d of a port %s: %v", what, most, a, b, name, got)
						}
						if got.n < 0 || got.n > 4 {
							t.Errorf("%s of %d at %d and %d of a port %s moves %d", what, most, a, b, name, got.n)
						}
					}
				}
			}
		}
	}
}
