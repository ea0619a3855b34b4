package policy_test

import (
	"math"
	"slices"
	"testing"

	"sallyport/api"
	"sallyport/policy"
)

// others is so many rules, none of which numbered has.
func others(n int) []api.Rule {
	var l []api.Rule
	for i := range n {
		l = append(l, ofNames(i%3 == 0, "a", i+1, i+2))
	}
	return l
}

// 12.2: at each place of lists of each length, as many rules as there is room for, and one more.
func TestPutAtEachPlace(t *testing.T) {
	for _, n := range []int{0, 1, 2, 3, 10, api.MaxRules - 1, api.MaxRules} {
		for _, m := range []int{0, 1, 2, 5, api.MaxRules - n, api.MaxRules - n + 1, api.MaxRules} {
			if m > 64 {
				continue
			}
			l, rules := numbered(n), others(m)
			for at := range n + 1 {
				if n+m > 64 {
					wantNoPut(t, l, at, rules, api.ErrLong)
					continue
				}
				var want []api.Rule
				want = append(want, l[:at]...)
				want = append(want, rules...)
				want = append(want, l[at:]...)
				wantPut(t, l, at, rules, want)
			}
		}
	}
}

// 12.2: what Put tells is a right list.
func TestPutOfAllKinds(t *testing.T) {
	for at := range len(rightRules) + 1 {
		l, e := policy.Put(rightRules, at, rightRules...)
		if e != api.OK || len(l) != 2*len(rightRules) {
			t.Fatalf("Put: %d rules, %v", len(l), e)
		}
		wantCheck(t, "what Put tells", l, api.OK)
	}
}

// 12.2: places that there are not.
func TestPutNowhere(t *testing.T) {
	for _, n := range []int{0, 1, 2, 63, 64} {
		for _, at := range []int{-1, -2, n + 1, n + 2, 65, 128, math.MinInt, math.MaxInt} {
			for _, m := range []int{0, 1, 2, 64} {
				wantNoPut(t, numbered(n), at, others(m), api.ErrArg)
			}
		}
	}
}

// 12.2: no rules, handed in in each way, into none and into some.
func TestPutNothing(t *testing.T) {
	for _, l := range [][]api.Rule{nil, {}, numbered(1), numbered(3), numbered(64)} {
		for at := range len(l) + 1 {
			wantPut(t, l, at, nil, l)
			wantPut(t, l, at, []api.Rule{}, l)
			if got, e := policy.Put(l, at); !slices.Equal(got, l) || e != api.OK {
				t.Errorf("Put(%d rules, %d): %v, %v", len(l), at, got, e)
			}
		}
	}
}

// 12.2, P1: the list's errors, then the rules' as a list, then the place, then how many there would be.
func TestPutFirstError(t *testing.T) {
	rows := map[string]struct {
		list []api.Rule
		e    api.Errno
	}{
		"none":                 {nil, api.OK},
		"right":                {numbered(3), api.OK},
		"full":                 {numbered(64), api.OK},
		"too many":             {numbered(65), api.ErrLong},
		"wrong":                {with(numbered(3), 1, zeroRule), api.ErrRule},
		"wrong first":          {with(numbered(3), 0, wrongRules[2]), api.ErrRule},
		"wrong last":           {with(numbered(64), 63, wrongRules[3]), api.ErrRule},
		"too many and wrong":   {with(numbered(65), 0, zeroRule), api.ErrLong},
		"too many, last wrong": {with(numbered(65), 64, zeroRule), api.ErrLong},
	}
	for one, l := range rows {
		for other, rules := range rows {
			for _, at := range []int{-1, 0, len(l.list), len(l.list) + 1} {
				want := api.OK
				switch {
				case l.e != api.OK:
					want = l.e
				case rules.e != api.OK:
					want = rules.e
				case at < 0 || at > len(l.list):
					want = api.ErrArg
				case len(l.list)+len(rules.list) > 64:
					want = api.ErrLong
				}
				if got, e := policy.Put(l.list, at, rules.list...); e != want || e != api.OK && len(got) != 0 {
					t.Errorf("Put(%s, %d, %s): %d rules, %v, want %v", one, at, other, len(got), e, want)
				}
			}
		}
	}
}

// 12.2: each wrong rule is refused on either side, alone and among right ones.
func TestPutWrongRules(t *testing.T) {
	for _, r := range wrongRules {
		wantNoPut(t, nil, 0, []api.Rule{r}, api.ErrRule)
		wantNoPut(t, numbered(2), 1, []api.Rule{rightRules[0], r}, api.ErrRule)
		wantNoPut(t, []api.Rule{r}, 0, nil, api.ErrRule)
		wantNoPut(t, []api.Rule{r}, -1, []api.Rule{rightRules[0]}, api.ErrRule)
		wantNoPut(t, with(numbered(3), 2, r), 1, others(1), api.ErrRule)
		wantNoPut(t, nil, 5, []api.Rule{r}, api.ErrRule)
	}
}

// Rule 4: the lists that are handed in are not changed, nor is what lies behind them.
func TestPutChangesNothing(t *testing.T) {
	for at := range 4 {
		backing, more := numbered(20), others(20)
		l, rules := backing[:3], more[:2]
		policy.Put(l, at, rules...)
		policy.Put(l, at, l...)
		policy.Put(l, at)
		policy.Put(l, at, zeroRule)
		policy.Put(l, -1, rules...)
		if !slices.Equal(backing, numbered(20)) || !slices.Equal(more, others(20)) {
			t.Errorf("Put at %d changes what was handed in", at)
		}
	}
}

// Rule 4: what is handed out is the caller's own, whatever becomes of what was handed in.
func TestPutIsTheCallers(t *testing.T) {
	for _, n := range []int{0, 1, 3} {
		for at := range n + 1 {
			for m := range 3 {
				backing, more := numbered(20), others(20)
				l, rules := backing[:n], more[:m]
				want := slices.Insert(numbered(n), at, others(m)...)
				got, _ := policy.Put(l, at, rules...)
				again, _ := policy.Put(l, at, rules...)
				clear(backing)
				clear(more)
				if !slices.Equal(got, want) {
					t.Errorf("Put(%d rules, %d, %d rules) shares with what was handed in", n, at, m)
				}
				clear(got[:cap(got)])
				if !slices.Equal(again, want) {
					t.Errorf("two answers of Put(%d rules, %d, %d rules) are one", n, at, m)
				}
			}
		}
	}
}

// Rule 4: one list may be handed in on both sides.
func TestPutOfItself(t *testing.T) {
	l := numbered(3)
	wantPut(t, l, 1, l, []api.Rule{l[0], l[0], l[1], l[2], l[1], l[2]})
	wantPut(t, l, 1, l[1:], []api.Rule{l[0], l[1], l[2], l[1], l[2]})
	wantPut(t, l[:1], 1, l[1:], l)
	wantPut(t, l[2:], 0, l[:2], l)
}
